/- A copy of a state's shots by append; Copy, the program's and the document's: contracts. -/
import Derived.Test.YtbmkmmkebophpaaDoorSo
import Derived.Laws.AppendOwnNone
namespace Go.Proofs.YtbmkmmkebophpaaDoor
open Go.RowKit
set_option linter.unusedVariables false

theorem hall_get : ∀ (l : List Sh) (j : Nat) (u : Value), (Hall l)[j]? = some u → ∃ (hk : j / 6 < l.length), (Hcs (l[j / 6]'hk))[j % 6]? = some u
  | [], j, u, h => by simp [Hall] at h
  | a :: l, j, u, h => by
    simp only [Hall, List.flatMap_cons] at h
    rcases Nat.lt_or_ge j 6 with h6 | h6
    · rw [List.getElem?_append_left (by simp [Hcs]; omega)] at h
      have e0 : j / 6 = 0 := by omega
      have e1 : j % 6 = j := by omega
      refine ⟨by rw [e0]; simp, ?_⟩
      simp only [e0, e1]
      exact h
    · rw [List.getElem?_append_right (by simp [Hcs]; omega)] at h
      obtain ⟨hk, hq⟩ := hall_get l (j - 6) u (by simpa [Hall, Hcs] using h)
      have e0 : j / 6 = (j - 6) / 6 + 1 := by omega
      have e1 : j % 6 = (j - 6) % 6 := by omega
      refine ⟨by rw [e0]; simpa using hk, ?_⟩
      simp only [e0, e1, List.getElem_cons_succ]
      exact hq
theorem Hall_len (l : List Sh) : (Hall l).length = l.length * 6 := by
  induction l with
  | nil => rfl
  | cons a l ih => simp only [Hall, List.flatMap_cons, List.length_append, List.length_cons] at ih ⊢; rw [ih]; simp [Hcs]; omega
theorem Hall_one (l : List Sh) : ∀ u ∈ Hall l, u.oneCell' = true := fun u hu => by
  obtain ⟨x, _, hx⟩ := List.mem_flatMap.1 hu
  simp only [Hcs, List.mem_cons, List.not_mem_nil, or_false] at hx
  rcases hx with rfl | rfl | rfl | rfl | rfl | rfl <;> rfl
theorem shs_news {w : World} {b o : Nat} {l : List Sh} (h : Shs w (some ⟨b, o, none⟩) l) : ∀ j u, (Hall l)[j]? = some u → w.cell? ((⟨b, o, none⟩ : Addr).add j) = some u := fun j u hu => by
  obtain ⟨hk, hq⟩ := hall_get l j u hu
  obtain ⟨_, b', o', e, hc⟩ := h (j / 6) hk
  obtain ⟨rfl, rfl⟩ : b = b' ∧ o = o' := by
    injection e with e
    injection e with e1 e2
    exact ⟨e1, e2⟩
  have := hc (j % 6) u hq
  have ea : (⟨b, o, none⟩ : Addr).add j = ⟨b, o + j / 6 * 6 + j % 6, none⟩ := by
    unfold Addr.add
    have : o + j = o + j / 6 * 6 + j % 6 := by omega
    split <;> simp_all
  rw [ea]
  exact this
theorem wpList_append_shots {w : World} {ops : Array Oper} {rest : List Oper} {o : Oper} {a : Act} {Q : Exit → Act → World → Prop} (hgd : o.guard = none) (s x : Operand)
    (ho : o.op = .call { callee := .builtin .append, args := #[s, x], argTypes := #[26, 26] }) (ao : Option Addr) (cap : Nat) (l : List Sh) (hs : a.eval s = .slice none 0 0) (hx : a.eval x = .slice ao l.length cap)
    (hsh : Shs w ao l) (hn : ao = none → cap = 0) (hl : l.length ≤ 1000000)
    (h : ∀ ao' cap' w', w'.ownsRow w.heap.size 46 6 (.slice ao' l.length cap') l.length (Hall l) → w.grownBy w' none → (ao' = none → cap' = 0) → wpList Tryd.prog ops Q rest (a.put o.dst (.slice ao' l.length cap')) w') :
    wpList Tryd.prog ops Q (o :: rest) a w := by
  obtain ⟨i0, hi0, hz0, hz1, hz2⟩ := info_parts info_Shot
  have hown : w.ownsRow w.heap.size 46 6 (.slice none 0 0) 0 [] := World.ownsRow_nil _ _ _ _
  by_cases h0 : l.length = 0
  · have e := List.eq_nil_of_length_eq_zero h0
    subst e
    cases ao with
    | none =>
      obtain rfl := hn rfl
      exact wpList_append_own_none hgd s x 26 ho w.heap.size 46 i0 6 Tryd.underlying26 hi0 (.slice none 0 0) 0 [] hs hown hx (h none 0 w hown (grown_refl _ _) (fun _ => rfl))
    | some ad =>
      refine wpList_append_own w hgd s x 26 ho w.heap.size 46 i0 (.agg #[.int .i32 0, .int .i32 0, .int .i32 0, .int .i32 0, .int .u8 0, .int .u8 0]) 6 20 Tryd.underlying26 hi0 hz0 hz1 hz2 rfl (by decide) (.slice none 0 0) 0 [] hs hown ad 0 cap [] hx rfl (by simp) (by simp) (by simp [maxLen]) (by omega) (Nat.le_refl _) ?_
      intro v' w1 hown1 hgr hnil
      obtain rfl := hnil.2 ⟨rfl, rfl⟩
      exact h none 0 w1 hown1 hgr (fun _ => rfl)
  · obtain ⟨_, b, o', rfl, _⟩ := hsh 0 (by omega)
    refine wpList_append_lies w hgd s x 26 ho w.heap.size 46 i0 (.agg #[.int .i32 0, .int .i32 0, .int .i32 0, .int .i32 0, .int .u8 0, .int .u8 0]) 6 20 Tryd.underlying26 hi0 hz0 hz1 hz2 rfl (by decide) (.slice none 0 0) 0 [] hs hown ⟨b, o', none⟩ l.length cap (Hall l) hx (Hall_len l) (shs_news hsh) (Hall_one l) (by omega) (by simp only [maxLen]; omega) (by omega) (Nat.le_refl _) _ rfl ?_
    intro g' cap' w1 hown1 hgr hat hlt1
    rw [Nat.zero_add, List.nil_append] at hown1
    rw [Nat.zero_add]
    exact h _ cap' w1 hown1 hgr (fun e => by cases e)
/-- What a copy is: the same state, its shots in memory of its own. -/
def CpPost (s : St) (w : World) (E : Ending) (w' : World) : Prop :=
  ∃ ao cap, E = .returned (sv s ao cap) ∧ w'.ownsRow w.heap.size 46 6 (.slice ao s.ss.length cap) s.ss.length (Hall s.ss) ∧ (ao = none → cap = 0) ∧ w.grownBy w' none
attribute [local go_sem ↓] loadAt_state storeAt_state
attribute [local go_sem] run_loadState rowOf_new rowOf_old rowOf_drew rowOf_drewN run_storeOk okRow_new okRow_old Value.oneCell' rowOf_own
theorem rowOf_old2 (w : World) (g : Nat) (A B : Obj) (h : g < w.heap.size) : rowOf ((w.alloc A).alloc B) g = rowOf w g := by
  rw [rowOf_old _ _ _ (by simp; omega), rowOf_old _ _ _ h]
theorem kept_cellB {w : World} {B n g i : Nat} {e : TypeId} {size : Nat} {v u : Value} {xs : List Value} (h : w.ownsRow B e size v n xs) (hg : g < B) : (w.setCell ⟨g, i, none⟩ u).ownsRow B e size v n xs := kept_row h (grown_set w g i u) hg
set_option maxHeartbeats 2000000 in
set_option maxRecDepth 20000 in
theorem copy_c (s : St) (ao : Option Addr) (cap : Nat) (w : World) (h : Shs w ao s.ss) (hn : ao = none → cap = 0) (hl : s.ss.length ≤ 1000000) :
    Calls Tryd.prog 20 #[sv s ao cap] w (CpPost s w) := by
  have hg : w.grownBy ((w.alloc (.cells (stc s ao cap) 30)).alloc (.cells #[.int .u64 0, .int .u64 0, .int .i32 0, .int .i32 0, .int .i32 0, .int .i32 0, .int .u8 0, .int .u8 0, .int .u8 0, .int .i32 0, .int .i32 0, .int .i32 0, .int .i32 0, .int .u8 0, .int .u8 0, .int .u8 0, .slice none 0 0, .int .u16 0, .int .u16 0] 30)) none := (grown_alloc _ _).trans (grown_alloc _ _)
  have HS := Lib.hid (Shs_grown h hg (by simp))
  have HB1 : Hid (Bk ((w.alloc (.cells (stc s ao cap) 30)).alloc (.cells #[.int .u64 0, .int .u64 0, .int .i32 0, .int .i32 0, .int .i32 0, .int .i32 0, .int .u8 0, .int .u8 0, .int .u8 0, .int .i32 0, .int .i32 0, .int .i32 0, .int .i32 0, .int .u8 0, .int .u8 0, .int .u8 0, .slice none 0 0, .int .u16 0, .int .u16 0] 30)) w.heap.size s ao cap) := heap_alloc2_old w _ _
  have HB2 : Hid (Bk ((w.alloc (.cells (stc s ao cap) 30)).alloc (.cells #[.int .u64 0, .int .u64 0, .int .i32 0, .int .i32 0, .int .i32 0, .int .i32 0, .int .u8 0, .int .u8 0, .int .u8 0, .int .i32 0, .int .i32 0, .int .i32 0, .int .i32 0, .int .u8 0, .int .u8 0, .int .u8 0, .slice none 0 0, .int .u16 0, .int .u16 0] 30)) (w.heap.size + 1) .zero none 0) := heap_alloc2_new w _ _
  have HG := Lib.hid hg
  have HN := Lib.hid hn
  have hz : ((w.alloc (.cells (stc s ao cap) 30)).alloc (.cells #[.int .u64 0, .int .u64 0, .int .i32 0, .int .i32 0, .int .i32 0, .int .i32 0, .int .u8 0, .int .u8 0, .int .u8 0, .int .i32 0, .int .i32 0, .int .i32 0, .int .i32 0, .int .u8 0, .int .u8 0, .int .u8 0, .slice none 0 0, .int .u16 0, .int .u16 0] 30)).heap.size = w.heap.size + 2 := by simp
  have HZ := Lib.hid hz
  clear hg h hn hz
  obtain ⟨Q, hQ⟩ : ∃ Q, Q = CpPost s w := ⟨_, rfl⟩
  rw [← hQ]
  have HQ : Hid (∀ (E : Ending) (w' : World), CpPost s w E w' → Q E w') := fun E w' x => by rw [hQ]; exact x
  clear hQ
  go_enter Tryd.func20, Tryd.ntmps20
  have c16 := HB1.out.of 16 _ rfl
  go_wp2_with (at_builtin; refine wpList_append_shots rfl _ _ rfl ao cap s.ss (by simp [Act.eval]) (by simp [Act.eval]) HS.out HN.out hl ?_; intro ao' cap' w1 hown hgr hnil; have HO := Lib.hid hown; have HN2 := Lib.hid hnil; have HBa := Lib.hid (bk_grown HB1.out hgr (by simp)); have HBb := Lib.hid (bk_grown HB2.out hgr (by simp)); have HG1 := Lib.hid (HG.out.trans hgr); have hlt : w.heap.size + 2 ≤ w1.heap.size := (by have := hgr.size; rw [HZ.out] at this; exact this); clear hown hnil hgr c16 HB1 HB2 HG HS HN; have c16 := HBa.out.of 16 _ rfl; have f16 := Cells.frozen HBa.out 16; have hr1 : rowOf (w1.setCell ⟨w.heap.size, 16, none⟩ (.slice ao' s.ss.length cap')) w.heap.size = stc s ao' cap' := rowOf_cells (bk_set16 HBa.out s.ss s.ss.length rfl ao' cap'); have hb2 : Bk (w1.setCell ⟨w.heap.size, 16, none⟩ (.slice ao' s.ss.length cap')) (w.heap.size + 1) .zero none 0 := Cells.far HBb.out (by show w.heap.size + 1 ≠ w.heap.size; omega) _; have hok := okRow_bk hb2; have HBz := Lib.hid hb2; clear hb2; have HB3 : Hid (Below w.heap.size w (w1.setCell ⟨w.heap.size, 16, none⟩ (.slice ao' s.ss.length cap'))) := (below_of_grown HG1.out).setCell (Nat.le_refl _) _)
  refine bodyPost_ret (v := sv s ao' cap') ?_ rfl ?_
  · exact ret_state _ 2 _ Tryd.results20 (setRow_heap _ _ _ _ _ _ HBz.out) rfl rfl
  · refine HQ.out _ _ ?_
    exact ⟨ao', cap', rfl, owns_less (kept_row (kept_cellB HO.out (by rw [HZ.out]; omega)) (grown_setRow _ _ _) (by rw [HZ.out]; omega)) (by rw [HZ.out]; omega), HN2.out, grown_of_below (below_setRow HB3.out (by omega) _)⟩
set_option maxHeartbeats 2000000 in
set_option maxRecDepth 20000 in
theorem refCopy_c (s : St) (ao : Option Addr) (cap : Nat) (w : World) (h : Shs w ao s.ss) (hn : ao = none → cap = 0) (hl : s.ss.length ≤ 1000000) :
    Calls Tryd.prog 10 #[sv s ao cap] w (CpPost s w) := by
  have hr0 : ∀ A : Obj, rowOf ((w.alloc (.cells (stc s ao cap) 30)).alloc A) w.heap.size = stc s ao cap := fun A => rowOf_cells ((Cells.made w _ _).alloc A)
  have HN := Lib.hid hn
  have HS := Lib.hid h
  clear hn h
  obtain ⟨Q, hQ⟩ : ∃ Q, Q = CpPost s w := ⟨_, rfl⟩
  rw [← hQ]
  have HQ : Hid (∀ (E : Ending) (w' : World), CpPost s w E w' → Q E w') := fun E w' x => by rw [hQ]; exact x
  clear hQ
  go_enter Tryd.func10, Tryd.ntmps10
  go_upto_region 2 with fail
  have HB1 : Hid (Bk ((((w.alloc (.cells (stc s ao cap) 30)).alloc (.cells #[.int .u64 0, .int .u64 0, .int .i32 0, .int .i32 0, .int .i32 0, .int .i32 0, .int .u8 0, .int .u8 0, .int .u8 0, .int .i32 0, .int .i32 0, .int .i32 0, .int .i32 0, .int .u8 0, .int .u8 0, .int .u8 0, .slice none 0 0, .int .u16 0, .int .u16 0] 30)).alloc (.cells #[.int .u64 0, .int .u64 0, .int .i32 0, .int .i32 0, .int .i32 0, .int .i32 0, .int .u8 0, .int .u8 0, .int .u8 0, .int .i32 0, .int .i32 0, .int .i32 0, .int .i32 0, .int .u8 0, .int .u8 0, .int .u8 0, .slice none 0 0, .int .u16 0, .int .u16 0] 30)).setRow (w.heap.size + 1 + 1) (stc s ao cap)) w.heap.size s ao cap) := cells_far (((Cells.made w _ _).alloc _).alloc _) (by omega) _
  have HB2 : Hid (Bk ((((w.alloc (.cells (stc s ao cap) 30)).alloc (.cells #[.int .u64 0, .int .u64 0, .int .i32 0, .int .i32 0, .int .i32 0, .int .i32 0, .int .u8 0, .int .u8 0, .int .u8 0, .int .i32 0, .int .i32 0, .int .i32 0, .int .i32 0, .int .u8 0, .int .u8 0, .int .u8 0, .slice none 0 0, .int .u16 0, .int .u16 0] 30)).alloc (.cells #[.int .u64 0, .int .u64 0, .int .i32 0, .int .i32 0, .int .i32 0, .int .i32 0, .int .u8 0, .int .u8 0, .int .u8 0, .int .i32 0, .int .i32 0, .int .i32 0, .int .i32 0, .int .u8 0, .int .u8 0, .int .u8 0, .slice none 0 0, .int .u16 0, .int .u16 0] 30)).setRow (w.heap.size + 1 + 1) (stc s ao cap)) (w.heap.size + 1) .zero none 0) := cells_far (Cells.alloc (heap_alloc2_new w _ _) _) (by omega) _
  have HB3 : Hid (Bk ((((w.alloc (.cells (stc s ao cap) 30)).alloc (.cells #[.int .u64 0, .int .u64 0, .int .i32 0, .int .i32 0, .int .i32 0, .int .i32 0, .int .u8 0, .int .u8 0, .int .u8 0, .int .i32 0, .int .i32 0, .int .i32 0, .int .i32 0, .int .u8 0, .int .u8 0, .int .u8 0, .slice none 0 0, .int .u16 0, .int .u16 0] 30)).alloc (.cells #[.int .u64 0, .int .u64 0, .int .i32 0, .int .i32 0, .int .i32 0, .int .i32 0, .int .u8 0, .int .u8 0, .int .u8 0, .int .i32 0, .int .i32 0, .int .i32 0, .int .i32 0, .int .u8 0, .int .u8 0, .int .u8 0, .slice none 0 0, .int .u16 0, .int .u16 0] 30)).setRow (w.heap.size + 1 + 1) (stc s ao cap)) (w.heap.size + 1 + 1) s ao cap) := by
    have := Cells.made ((w.alloc (.cells (stc s ao cap) 30)).alloc (.cells #[.int .u64 0, .int .u64 0, .int .i32 0, .int .i32 0, .int .i32 0, .int .i32 0, .int .u8 0, .int .u8 0, .int .u8 0, .int .i32 0, .int .i32 0, .int .i32 0, .int .i32 0, .int .u8 0, .int .u8 0, .int .u8 0, .slice none 0 0, .int .u16 0, .int .u16 0] 30)) 30 #[.int .u64 0, .int .u64 0, .int .i32 0, .int .i32 0, .int .i32 0, .int .i32 0, .int .u8 0, .int .u8 0, .int .u8 0, .int .i32 0, .int .i32 0, .int .i32 0, .int .i32 0, .int .u8 0, .int .u8 0, .int .u8 0, .slice none 0 0, .int .u16 0, .int .u16 0]
    rw [show ((w.alloc (.cells (stc s ao cap) 30)).alloc (.cells #[.int .u64 0, .int .u64 0, .int .i32 0, .int .i32 0, .int .i32 0, .int .i32 0, .int .u8 0, .int .u8 0, .int .u8 0, .int .i32 0, .int .i32 0, .int .i32 0, .int .i32 0, .int .u8 0, .int .u8 0, .int .u8 0, .slice none 0 0, .int .u16 0, .int .u16 0] 30)).heap.size = w.heap.size + 1 + 1 by simp] at this
    exact bk_setRow this s ao cap
  have HBW : Hid (Below w.heap.size w ((((w.alloc (.cells (stc s ao cap) 30)).alloc (.cells #[.int .u64 0, .int .u64 0, .int .i32 0, .int .i32 0, .int .i32 0, .int .i32 0, .int .u8 0, .int .u8 0, .int .u8 0, .int .i32 0, .int .i32 0, .int .i32 0, .int .i32 0, .int .u8 0, .int .u8 0, .int .u8 0, .slice none 0 0, .int .u16 0, .int .u16 0] 30)).alloc (.cells #[.int .u64 0, .int .u64 0, .int .i32 0, .int .i32 0, .int .i32 0, .int .i32 0, .int .u8 0, .int .u8 0, .int .u8 0, .int .i32 0, .int .i32 0, .int .i32 0, .int .i32 0, .int .u8 0, .int .u8 0, .int .u8 0, .slice none 0 0, .int .u16 0, .int .u16 0] 30)).setRow (w.heap.size + 1 + 1) (stc s ao cap))) := below_setRow ((((Below.refl _ w).alloc (Nat.le_refl _) _).alloc (by simp) _).alloc (by simp; omega) _) (by omega) _
  generalize ((((w.alloc (.cells (stc s ao cap) 30)).alloc (.cells #[.int .u64 0, .int .u64 0, .int .i32 0, .int .i32 0, .int .i32 0, .int .i32 0, .int .u8 0, .int .u8 0, .int .u8 0, .int .i32 0, .int .i32 0, .int .i32 0, .int .i32 0, .int .u8 0, .int .u8 0, .int .u8 0, .slice none 0 0, .int .u16 0, .int .u16 0] 30)).alloc (.cells #[.int .u64 0, .int .u64 0, .int .i32 0, .int .i32 0, .int .i32 0, .int .i32 0, .int .u8 0, .int .u8 0, .int .u8 0, .int .i32 0, .int .i32 0, .int .i32 0, .int .i32 0, .int .u8 0, .int .u8 0, .int .u8 0, .slice none 0 0, .int .u16 0, .int .u16 0] 30)).setRow (w.heap.size + 1 + 1) (stc s ao cap)) = wa at *
  clear hr0
  have e16 := HB3.out.of 16 _ rfl
  have f16 := Cells.frozen HB3.out 16
  have hlt := Cells.lt HB3.out
  go_upto_region 3 with fail
  have HC1 : Hid (Bk (wa.setCell ⟨w.heap.size + 1 + 1, 16, none⟩ (.slice none 0 0)) w.heap.size s ao cap) := Cells.far HB1.out (by show w.heap.size ≠ w.heap.size + 1 + 1; omega) _
  have HC2 : Hid (Bk (wa.setCell ⟨w.heap.size + 1 + 1, 16, none⟩ (.slice none 0 0)) (w.heap.size + 1) .zero none 0) := Cells.far HB2.out (by show w.heap.size + 1 ≠ w.heap.size + 1 + 1; omega) _
  have HC3 : Hid (Bk (wa.setCell ⟨w.heap.size + 1 + 1, 16, none⟩ (.slice none 0 0)) (w.heap.size + 1 + 1) { s with ss := [] } none 0) := bk_set16 HB3.out [] 0 rfl none 0
  have HCW : Hid (Below w.heap.size w (wa.setCell ⟨w.heap.size + 1 + 1, 16, none⟩ (.slice none 0 0))) := HBW.out.setCell (by show w.heap.size ≤ w.heap.size + 1 + 1; omega) _
  clear e16 f16 hlt HB1 HB2 HB3 HBW
  generalize wa.setCell ⟨w.heap.size + 1 + 1, 16, none⟩ (.slice none 0 0) = wb at *
  have e16 := HC3.out.of 16 _ rfl
  have c16 := HC1.out.of 16 _ rfl
  have HSb : Hid (Shs wb ao s.ss) := Shs_grown HS.out (grown_of_below (r := none) HCW.out) (by simp)
  have hlt3 := Cells.lt HC3.out
  go_wp2_with (at_builtin; refine wpList_append_shots rfl _ _ rfl ao cap s.ss (by simp [Act.eval]) (by simp [Act.eval]) HSb.out HN.out hl ?_; intro ao' cap' w1 hown hgr hnil; have HO := Lib.hid hown; have HN2 := Lib.hid hnil; have HD2 := Lib.hid (bk_grown HC2.out hgr (by simp)); have HD3 := Lib.hid (bk_grown HC3.out hgr (by simp)); have HDW := Lib.hid (HCW.out.trans ((below_of_grown hgr).mono (by omega))); clear hown hnil hgr c16 e16 HC1 HC2 HC3 HCW HSb; have e16 := HD3.out.of 16 _ rfl; have f16 := Cells.frozen HD3.out 16; have hr1 : rowOf (w1.setCell ⟨w.heap.size + 1 + 1, 16, none⟩ (.slice ao' s.ss.length cap')) (w.heap.size + 1 + 1) = stc s ao' cap' := rowOf_cells (bk_set16 HD3.out s.ss s.ss.length rfl ao' cap'); have hb2 : Bk (w1.setCell ⟨w.heap.size + 1 + 1, 16, none⟩ (.slice ao' s.ss.length cap')) (w.heap.size + 1) .zero none 0 := Cells.far HD2.out (by show w.heap.size + 1 ≠ w.heap.size + 1 + 1; omega) _; have hok := okRow_bk hb2; have HBz := Lib.hid hb2; clear hb2; have HB3 : Hid (Below w.heap.size w (w1.setCell ⟨w.heap.size + 1 + 1, 16, none⟩ (.slice ao' s.ss.length cap'))) := HDW.out.setCell (by show w.heap.size ≤ w.heap.size + 1 + 1; omega) _)
  refine bodyPost_ret (v := sv s ao' cap') ?_ rfl ?_
  · exact ret_state _ 2 _ Tryd.results10 (setRow_heap _ _ _ _ _ _ HBz.out) rfl rfl
  · refine HQ.out _ _ ?_
    exact ⟨ao', cap', rfl, owns_less (kept_row (kept_cellB HO.out (by omega)) (grown_setRow _ _ _) (by omega)) (by omega), HN2.out, grown_of_below (below_setRow HB3.out (by omega) _)⟩
end Go.Proofs.YtbmkmmkebophpaaDoor
