/- Rows of numbers that a call makes; the ends of records' bytes; what a beginning of them tells. -/
import Derived.Test.YthnelnfefllhpaaGreatDoorBt
namespace Go.Proofs.YthnelnfefllhpaaGreatDoor
open Go.RowKit
set_option linter.unusedVariables false
set_option linter.unusedSimpArgs false

theorem info_int16 : (Tryz.prog.info? 3).map (fun i => (i.zero, i.size, i.bytes)) = some (some (.int .i64 0), 1, 8) := by kernel_rfl
def nums (zs : List Nat) : List Value := zs.map (fun n : Nat => Value.int .i64 n)
def NumAt (w : World) (B : Nat) (v : Value) (zs : List Nat) : Prop := w.ownsRow B 3 1 v zs.length (nums zs)
/-- A list of numbers that the call has made. -/
def NRow (w : World) (B : Nat) (v : Value) (zs : List Nat) (wr : World) : Prop :=
  ∃ ao cap, v = .slice ao zs.length cap ∧ NumAt wr B v zs ∧ Below B w wr ∧ B ≤ wr.heap.size
theorem nrow_push {w wr W w1 : World} {B g' cap cap' : Nat} {ao : Option Addr} {zs : List Nat} {z : Nat} (hb : Below B w wr) (hB : B ≤ W.heap.size) (hW : Below B wr W)
    (hown : wr.ownsRow B 3 1 (.slice ao zs.length cap) zs.length (nums zs)) (hgr : W.grownBy w1 (Value.slice ao zs.length cap).ownBlock)
    (hown1 : w1.ownsRow B 3 1 (.slice (some ⟨g', 0, none⟩) (zs.length + 1) cap') (zs.length + 1) (nums zs ++ [.int .i64 z])) :
    NRow w B (.slice (some ⟨g', 0, none⟩) (zs.length + 1) cap') (zs ++ [z]) w1 := by
  refine ⟨some ⟨g', 0, none⟩, cap', by simp, ?_, (hb.trans hW).grown hgr hB (fun k e => (hown.lt k e).1), Nat.le_trans hB hgr.size⟩
  have e : nums (zs ++ [z]) = nums zs ++ [.int .i64 z] := by simp [nums]
  unfold NumAt
  rw [e, List.length_append]; exact hown1
theorem numrow_at {w : World} {B : Nat} {v : Value} {zs : List Nat} (h : NumAt w B v zs) (i z : Nat) (hz : zs[i]? = some z) :
    ∃ g cap, v = .slice (some ⟨g, 0, none⟩) zs.length cap ∧ w.cell? ⟨g, i, none⟩ = some (.int .i64 z) := by
  have hi : i < zs.length := (List.getElem?_eq_some_iff.1 hz).1
  rcases h.2 with ⟨_, h0⟩ | ⟨g, cap, _, rfl, _⟩
  · omega
  · refine ⟨g, cap, rfl, ?_⟩
    have e : (⟨g, 0, none⟩ : Addr).add i = ⟨g, i, none⟩ := by unfold Addr.add; split <;> simp_all
    have := World.ownsRow.cells h (g := g) rfl i (.int .i64 z) (by simp [nums, hz])
    rwa [e] at this
def rends (l : List Rc) (k : Nat) : List Nat := (List.range k).map (fun i => (bys (l.take (i + 1))).length)
theorem rends_len (l : List Rc) (k : Nat) : (rends l k).length = k := by simp [rends]
theorem rends_snoc (l : List Rc) (k : Nat) : rends l (k + 1) = rends l k ++ [(bys (l.take (k + 1))).length] := by simp [rends, List.range_succ]
theorem rends_get (l : List Rc) (k i : Nat) (h : i < k) : (rends l k)[i]? = some (bys (l.take (i + 1))).length := by simp [rends, h]
/-- Where the second loop stands. -/
def RCut (l : List Rc) (k : Nat) (n tt : Value) : Prop :=
  ∃ i : Nat, i ≤ l.length ∧ n = .int .i64 i ∧ tt = .int .i64 (bys (l.take i)).length ∧ (bys (l.take i)).length ≤ k
theorem rtake_len (l : List Rc) (h : l.length ≤ 201) (i : Nat) : (bys (l.take i)).length ≤ 6432 := by
  have h1 := bys_len (l.take i)
  rw [List.length_take] at h1
  omega
/-- What a beginning of the bytes tells: of no record, or of some. -/
theorem begin_none {l : List Rc} {q : Nat} (h : Goes 1 sg0 l) (h1 : 0 < l.length) (h2 : q < (bys (l.take 1)).length) (hq : q ≤ (bys l).length) :
    scn 1 sg0 0 ((bys l).take q) = ⟨sg0, 0, 10⟩ := by
  have := scn_begin h (m := 0) (k := q) (Nat.zero_le _) (Nat.zero_le _) (fun _ => h2) hq
  simpa [bys_nil, runS] using this
theorem begin_some {l : List Rc} {q i : Nat} (h : Goes 1 sg0 l) (h0 : 0 < i) (hi : i ≤ l.length) (h1 : (bys (l.take i)).length ≤ q) (h2 : i < l.length → q < (bys (l.take (i + 1))).length) (hq : q ≤ (bys l).length) :
    ∃ (x : Sg) (hlt : 0 < l.length), scn 1 sg0 0 ((bys l).take q) = ⟨x, (bys (l.take i)).length, if (bys (l.take i)).length = q then 0 else 10⟩ ∧ x.h = l[0]'hlt ∧ x.l.length = i - 1 ∧ ∀ j (hj : j < x.l.length) (hj2 : j + 1 < l.length), x.l[j]'hj = l[j + 1]'hj2 := by
  have e := scn_begin h hi h1 h2 hq
  have hif : (if 0 < i ∧ (bys (l.take i)).length = q then (0 : Int) else 10) = if (bys (l.take i)).length = q then 0 else 10 := by by_cases h : (bys (l.take i)).length = q <;> simp [h, h0]
  rw [hif] at e
  clear hif
  have hg := goes_take i h
  cases l with
  | nil => simp at hi; omega
  | cons r l =>
    obtain ⟨i, rfl⟩ : ∃ k, i = k + 1 := ⟨i - 1, by omega⟩
    rw [List.take_succ_cons] at e hg
    obtain ⟨g1, g2, g3⟩ := runS_told hg
    refine ⟨runS sg0 (r :: l.take i), by simp, by rw [List.take_succ_cons]; exact e, g1, ?_, fun j hj hj2 => ?_⟩
    · rw [g2, List.length_take]; simp at hi; omega
    · simp only [g2]
      rw [List.getElem_take]
      rfl
theorem wrapM {M : Nat} (h : M ≤ 201) : IntKind.i64.wrap (M : Int) = (M : Int) := IntWalk.i64_in _ (by omega)
/-- The same, for any number of whole ones. -/
theorem begin_all {l : List Rc} {q i : Nat} (h : Goes 1 sg0 l) (h0 : 0 < l.length) (hi : i ≤ l.length) (h1 : (bys (l.take i)).length ≤ q) (h2 : i < l.length → q < (bys (l.take (i + 1))).length) (hq : q ≤ (bys l).length) :
    ∃ (x : Sg) (e : Int), scn 1 sg0 0 ((bys l).take q) = ⟨x, (bys (l.take i)).length, e⟩ ∧ x.l.length = i - 1 ∧ (∀ j (hj : j < x.l.length) (hj2 : j + 1 < l.length), x.l[j]'hj = l[j + 1]'hj2) ∧
      ((i = 0 ∧ x.h = rz ∧ e = 10 ∧ (((bys (l.take i)).length : Int) == (q : Int)) = true) ∨ (i = 0 ∧ x.h = rz ∧ e = 10 ∧ (((bys (l.take i)).length : Int) == (q : Int)) = false) ∨ (0 < i ∧ x.h = l[0]'h0 ∧ e = 0 ∧ (((bys (l.take i)).length : Int) == (q : Int)) = true) ∨ (0 < i ∧ x.h = l[0]'h0 ∧ e = 10 ∧ (((bys (l.take i)).length : Int) == (q : Int)) = false)) := by
  rcases Nat.eq_zero_or_pos i with rfl | hp
  · refine ⟨sg0, 10, begin_none h h0 (h2 h0) hq, rfl, fun j hj => by simp [sg0] at hj, ?_⟩
    by_cases hq0 : (((bys (l.take 0)).length : Int) == (q : Int)) = true
    · exact .inl ⟨rfl, rfl, rfl, hq0⟩
    · exact .inr (.inl ⟨rfl, rfl, rfl, by simpa using hq0⟩)
  · obtain ⟨x, _, e, g1, g2, g3⟩ := begin_some h hp hi h1 h2 hq
    refine ⟨x, _, e, g2, g3, ?_⟩
    by_cases hq0 : (bys (l.take i)).length = q
    · exact .inr (.inr (.inl ⟨hp, g1, if_pos hq0, beq_iff_eq.2 (by omega)⟩))
    · exact .inr (.inr (.inr ⟨hp, g1, if_neg hq0, beq_eq_false_iff_ne.2 (by omega)⟩))
end Go.Proofs.YthnelnfefllhpaaGreatDoor
