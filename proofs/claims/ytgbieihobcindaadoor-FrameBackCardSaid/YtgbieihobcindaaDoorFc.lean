/- The statement FrameBack (the stage's theorem): the Go function returns true. Conditions: the table of four steps lies in its variable. -/
import Derived.Test.YtgbieihobcindaaDoorFk
namespace Go.Proofs.YtgbieihobcindaaDoor
open Go.RowKit
set_option linter.unusedVariables false

/-- Frames one behind the other. -/
def cat (ps : List (List UInt8)) : List UInt8 := (ps.map frm).flatten
theorem cat_nil : cat [] = [] := rfl
theorem cat_cons (p : List UInt8) (ps : List (List UInt8)) : cat (p :: ps) = frm p ++ cat ps := rfl
theorem cat_append (a b : List (List UInt8)) : cat (a ++ b) = cat a ++ cat b := by simp [cat]
theorem cat_snoc (ps : List (List UInt8)) (k : Nat) (h : k < ps.length) : cat (ps.take (k + 1)) = cat (ps.take k) ++ frm (ps[k]'h) := by
  rw [List.take_succ_eq_append_getElem h, cat_append, cat_cons, cat_nil, List.append_nil]
theorem cat_len (ps : List (List UInt8)) (h : ∀ p ∈ ps, p.length ≤ 600) : (cat ps).length ≤ 606 * ps.length := by
  induction ps with
  | nil => simp [cat]
  | cons p ps ih =>
    have h1 := ih (fun q hq => h q (List.mem_cons_of_mem _ hq))
    have h2 := h p (List.mem_cons_self ..)
    rw [cat_cons, List.length_append, frm_len, List.length_cons]; omega
theorem all_cat : ∀ (ps : List (List UInt8)) (m : List UInt8), (∀ p ∈ ps, p.length ≤ 600) → all (cat ps ++ m) = ⟨ps ++ (all m).l, (cat ps).length + (all m).used, (all m).err⟩
  | [], m, _ => by simp [cat]
  | p :: ps, m, h => by
    have ih := all_cat ps m (fun q hq => h q (List.mem_cons_of_mem _ hq))
    have h2 := h p (List.mem_cons_self ..)
    rw [cat_cons, List.append_assoc, all_frm p _ (by omega), ih, List.length_append, frm_len]
    simp [Nat.add_assoc]
theorem all_whole (ps : List (List UInt8)) (h : ∀ p ∈ ps, p.length ≤ 600) : all (cat ps) = ⟨ps, (cat ps).length, 0⟩ := by
  have := all_cat ps [] h
  rw [List.append_nil, all_nil] at this
  rw [this]; simp
theorem all_cut (ps : List (List UInt8)) (h : ∀ p ∈ ps, p.length ≤ 600) (n k : Nat) (hn : n ≤ ps.length) (hk : k ≤ (cat ps).length) (h1 : (cat (ps.take n)).length ≤ k)
    (h2 : n = ps.length ∨ k < (cat (ps.take (n + 1))).length) : all ((cat ps).take k) = ⟨ps.take n, (cat (ps.take n)).length, if (cat (ps.take n)).length = k then 0 else 10⟩ := by
  have e : (cat ps).take k = cat (ps.take n) ++ (cat (ps.drop n)).take (k - (cat (ps.take n)).length) := by
    conv => lhs; rw [← List.take_append_drop n ps, cat_append]
    rw [List.take_append, List.take_of_length_le h1]
  have ht : ∀ p ∈ ps.take n, p.length ≤ 600 := fun p hp => h p (List.mem_of_mem_take hp)
  rw [e, all_cat _ _ ht]
  by_cases hx : (cat (ps.take n)).length = k
  · rw [if_pos hx, hx, Nat.sub_self, List.take_zero, all_nil]; simp
  · rw [if_neg hx]
    have hnl : n < ps.length := by
      rcases h2 with h2 | h2
      · subst h2; rw [List.take_length] at h1 hx; omega
      · rcases Nat.lt_or_ge n ps.length with h3 | h3
        · exact h3
        · have : n = ps.length := by omega
          subst this; rw [List.take_length] at h1 hx; omega
    have h2' : k < (cat (ps.take (n + 1))).length := by
      rcases h2 with h2 | h2
      · omega
      · exact h2
    rw [cat_snoc ps n hnl, List.length_append, frm_len] at h2'
    have hp := h (ps[n]'hnl) (List.getElem_mem _)
    rw [List.drop_eq_getElem_cons hnl, cat_cons]
    have hc := frm_cut (ps[n]'hnl) (cat (ps.drop (n + 1))) (k - (cat (ps.take n)).length) (by omega) (by omega)
    have hne : (frm (ps[n]'hnl) ++ cat (ps.drop (n + 1))).take (k - (cat (ps.take n)).length) ≠ [] := by
      intro h0
      have := congrArg List.length h0
      rw [List.length_take, List.length_append, frm_len] at this
      simp at this
      omega
    rw [all_bad hne (by rw [hc]; decide), hc]; simp
/-- The slice of strings that comes in. -/
def SArg (w : World) (B : Nat) (a : Option Addr) (len : Nat) (ps : List (List UInt8)) : Prop :=
  ps.length = len ∧ len ≤ maxLen ∧ ∀ k (h : k < ps.length), ∃ b o, a = some ⟨b, o, none⟩ ∧ b < B ∧ (ps[k]'h).length ≤ maxLen ∧ w.cell? ⟨b, o + k, none⟩ = some (.string (str (ps[k]'h)))
theorem sarg_below {w w' : World} {B : Nat} {a : Option Addr} {len : Nat} {ps : List (List UInt8)} (h : SArg w B a len ps) (hb : Below B w w') : SArg w' B a len ps :=
  ⟨h.1, h.2.1, fun k hk => by
    obtain ⟨b, o, e, hB, hl, hc⟩ := h.2.2 k hk
    exact ⟨b, o, e, hB, hl, (hb.cell (p := ⟨b, o + k, none⟩) hB).trans hc⟩⟩
def Few (ps : List (List UInt8)) : Prop := ps.length ≤ 20 ∧ ∀ p ∈ ps, p.length ≤ 600
def FewRel (ps : List (List UInt8)) (i : Value) : Prop := ∃ k : Nat, i = .int .i64 k ∧ k ≤ ps.length ∧ k ≤ 30 ∧ ∀ j (h : j < ps.length), j < k → (ps[j]'h).length ≤ 600
def FewRet (ps : List (List UInt8)) (E : Ending) : Prop := ∃ b : Bool, E = .returned (.bool b) ∧ (b = true → Few ps)
theorem few_of {ps : List (List UInt8)} {k : Nat} (h : ∀ j (h : j < ps.length), j < k → (ps[j]'h).length ≤ 600) (hk : ps.length ≤ k) (h20 : ps.length ≤ 20) : Few ps :=
  ⟨h20, fun p hp => by obtain ⟨j, hj, rfl⟩ := List.getElem_of_mem hp; exact h j hj (by omega)⟩
theorem fewL (ps : List (List UInt8)) (w : World) (B : Nat) (a : Option Addr) (len cap : Nat) (h : SArg w B a len ps) :
    Calls Tryd.prog 17 #[.slice a len cap] w fun E w' => FewRet ps E ∧ w = w' := by
  have H := Lib.hid h
  obtain ⟨hlen, hmax, _⟩ := h
  subst hlen
  unfold maxLen at hmax
  go_enter Tryd.func17, Tryd.ntmps17
  go_wp2
  go_loop [3] (fun i => FewRel ps i) (fun i => 30 - (intOf i).toNat)
  case atStart => exact ⟨0, rfl, by omega, by omega, fun j _ h => by omega⟩
  case round =>
    obtain ⟨k, rfl, hk, hk30, hall⟩ := hrel
    have HA := Lib.hid hall
    clear hall
    have h3 : (k = ps.length) ∨ (k < ps.length ∧ k = 30) ∨ (k < ps.length ∧ k < 30) := by omega
    rcases h3 with h3 | ⟨h3, h4⟩ | ⟨h3, h4⟩
    · subst h3
      go_wp2
      go_ret
      exact ⟨⟨_, rfl, fun hb => few_of HA.out (Nat.le_refl _) (by have := of_decide_eq_true hb; omega)⟩, rfl⟩
    · subst h4
      go_wp2
      go_ret
      exact ⟨⟨_, rfl, fun hb => by have := of_decide_eq_true hb; omega⟩, rfl⟩
    · obtain ⟨b, o, rfl, hbB, hl, hc⟩ := H.out.2.2 k h3
      have hsz := str_size (ps[k]'h3)
      have HS : Hid (∀ j (h : j < ps.length), j = k → ps[j]'h = ps[k]'h3) := fun j _ e => by subst e; rfl
      unfold maxLen at hl
      generalize hp : ps[k]'h3 = p at *
      clear hp
      by_cases hbig : 600 < p.length
      · go_wp2
        go_ret
        exact ⟨⟨false, rfl, fun hb => by cases hb⟩, rfl⟩
      · go_wp2
        go_round
        case rel =>
          refine ⟨k + 1, by go_num, by omega, by omega, fun j hj hjk => ?_⟩
          rcases Nat.lt_or_ge j k with h | h
          · exact HA.out j hj h
          · rw [HS.out j hj (by omega)]; omega
        case measure => simp [intOf]; omega
end Go.Proofs.YtgbieihobcindaaDoor
