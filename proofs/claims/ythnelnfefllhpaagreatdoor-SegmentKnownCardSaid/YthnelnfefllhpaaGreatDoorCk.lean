/- The chapter's examples in plain: what each of SegmentKnown's bytes tell. -/
import Derived.Test.YthnelnfefllhpaaGreatDoorCj
namespace Go.Proofs.YthnelnfefllhpaaGreatDoor
open Go.RowKit
set_option linter.unusedVariables false
set_option linter.unusedSimpArgs false
set_option maxRecDepth 20000

def H15 : Rc := rH 1 5
theorem h15_ok : H15.fit ∧ mayB H15 = true := rH_ok (by decide) (by decide)
theorem o_ok {f i : Nat} (hf : f < 1000) (hi : i < 64) : (rO f i).fit ∧ mayB (rO f i) = true := rO_ok (by omega) hi
theorem s_ok {f a b : Nat} (hf : f < 1000) (ha : a < 64) (hb : b < 64) : (rS f a b).fit ∧ mayB (rS f a b) = true := rS_ok (by omega) ha hb
theorem bys_two (a b : Rc) : bys [a, b] = bys [a] ++ (byR b ++ []) := by simp [bys]
theorem bys_three (a b c : Rc) : bys [a, b, c] = bys [a, b] ++ (byR c ++ []) := by simp [bys]
theorem k1 : IsN (bys [rO 5 7]) 11 := by rw [bys_one]; exact isN_stop (o_ok (by decide) (by decide)) (by decide) (by decide)
theorem k2 : IsN (bys [rH 2 5]) 11 := by rw [bys_one]; exact isN_stop (rH_ok (by decide) (by decide)) (by decide) (by decide)
theorem k3 : IsP (bys [rH 1 5, rH 1 5]) 0 11 := by rw [bys_two]; exact isP_stop goes_1 h15_ok (by decide) (by decide) []
theorem k4 : IsP (bys [rH 1 5, rS 5 7 9]) 0 11 := by rw [bys_two]; exact isP_stop goes_1 (s_ok (by decide) (by decide) (by decide)) (by decide) (by decide) []
theorem k5 : IsP (bys [rH 1 5, rO 6 7]) 0 11 := by rw [bys_two]; exact isP_stop goes_1 (o_ok (by decide) (by decide)) (by decide) (by decide) []
theorem k6 : IsP (bys [rH 1 5, rO 5 7, rO 5 7]) 1 11 := by rw [bys_three]; exact isP_stop goes_2 (o_ok (by decide) (by decide)) (by decide) (by decide) []
theorem k7 : IsP (bys [rH 1 5, rO 5 7, rS 5 8 9]) 1 14 := by rw [bys_three]; exact isP_stop goes_2 (s_ok (by decide) (by decide) (by decide)) (by decide) (by decide) []
theorem k8 : IsP (bys [rH 1 5]) 0 0 := isP_whole goes_1
theorem k9 : IsP (bys [rH 1 5] ++ [120]) 0 10 := isP_bad goes_1 (by simp) (fe_short (by simp)) (by decide)
/-- Twelve own inputs. -/
def OW (k : Nat) : List Rc := (List.range k).map fun i => rO (5 + i) 1
theorem ow_len (k : Nat) : (OW k).length = k := by simp [OW]
theorem ow_succ (k : Nat) : OW (k + 1) = OW k ++ [rO (5 + k) 1] := by simp [OW, List.range_succ]
theorem ow_bys (k : Nat) : bys (rH 1 5 :: OW (k + 1)) = bys (rH 1 5 :: OW k) ++ bys [rO (5 + k) 1] := by rw [ow_succ, ← List.cons_append, bys_app]
theorem goes_ow : ∀ k, k ≤ 12 → Goes 1 sg0 (rH 1 5 :: OW k)
  | 0, _ => goes_1
  | k + 1, h => by
    have ht : ∀ i : Fin 12, tkS 1 (runS sg0 (rH 1 5 :: OW i.val)) (rO (5 + i.val) 1) = 0 := by decide
    rw [ow_succ, ← List.cons_append]
    have ho := o_ok (f := 5 + k) (i := 1) (by omega) (by decide)
    exact goes_snoc.2 ⟨goes_ow k (by omega), ho.1, ho.2, ht ⟨k, by omega⟩⟩
theorem k10 : IsP (bys (rH 1 5 :: OW 12)) 12 0 := by have := isP_whole (goes_ow 12 (Nat.le_refl _)); rwa [ow_len] at this
theorem k11 : IsP (bys (rH 1 5 :: OW 12) ++ bys [rO 17 1]) 12 11 := by
  rw [bys_one]
  have := isP_stop (goes_ow 12 (Nat.le_refl _)) (o_ok (f := 17) (i := 1) (by decide) (by decide)) (e := 11) (by decide) (by decide) []
  rwa [ow_len, List.append_nil] at this
theorem goes_14 : Goes 1 sg0 (rH 1 5 :: (OW 12 ++ [rS 5 1 2, rO 17 1])) := by
  have hs := s_ok (f := 5) (a := 1) (b := 2) (by decide) (by decide) (by decide)
  have ho := o_ok (f := 17) (i := 1) (by decide) (by decide)
  have h1 := goes_snoc.2 ⟨goes_ow 12 (Nat.le_refl _), hs.1, hs.2, by decide⟩
  have h2 := goes_snoc.2 ⟨h1, ho.1, ho.2, by decide⟩
  simpa using h2
theorem k12 : IsP (bys (rH 1 5 :: OW 12) ++ bys [rS 5 1 2, rO 17 1]) 14 0 := by
  have := isP_whole goes_14
  rw [← List.cons_append, bys_app, List.length_append, ow_len] at this
  exact this
theorem k13 : IsP (bys (rH 1 5 :: OW 12) ++ putS [4]) 12 4 := by
  obtain ⟨h1, h2⟩ := frm_ok [4] [] (by decide)
  rw [List.append_nil] at h1 h2
  have e : putS [4] = frm [4] := if_pos (by decide)
  rw [e]
  have := isP_take (goes_ow 12 (Nat.le_refl _)) h1 (e := 4) (by rw [h2]; decide) (by decide)
  rwa [ow_len] at this
/-! The power's values. -/
def pz0 : Pw := ⟨-1, [], 0, false, []⟩
def pz3 (b : List UInt8) : Pw := ⟨-1, [], 3, false, [⟨sgn 1, b, b.length⟩]⟩
def pz4 (b t : List UInt8) : Pw := ⟨-1, [], 4, false, [⟨sgn 1, b ++ t, b.length⟩]⟩
theorem on_after (n : Nat) (E E' : List Ent) (r : Nat) : (⟨-1, [], n, false, E⟩ : Pw).after E' = ⟨-1, [], n + 1, false, E'⟩ ∧ (⟨-1, [], n, false, E⟩ : Pw).code r = r := by
  unfold Pw.after Pw.code
  have h : ¬ ((n : Int) = -1) := by omega
  constructor
  · show (if false = true then _ else if (n : Int) = -1 then _ else _) = _
    rw [if_neg (by decide), if_neg h]
  · show (if false = true then _ else if (n : Int) = -1 then _ else _) = _
    rw [if_neg (by decide), if_neg h]
end Go.Proofs.YthnelnfefllhpaaGreatDoor
