/- Used and List: loops over the range function that change nothing of the disk. -/
import Derived.Test.YthjhjbiihhpnfaaDm
namespace Go.Proofs.Ythjhjbiihhpnfaa
open Go.RowKit Go.Shelf Go.Maps Go.Sort
set_option linter.unusedVariables false
set_option maxRecDepth 100000
attribute [local go_sem] Oper.semAt_some

def tot {fs : List Fil} (l : List (Itm fs)) : Nat := (l.map fun x => x.1.bs.length).sum
theorem tot_snoc {fs : List Fil} (l : List (Itm fs)) (x : Itm fs) : tot (l ++ [x]) = tot l + x.1.bs.length := by simp [tot]
theorem tot_le {fs : List Fil} (h : ∀ f ∈ fs, f.bs.length ≤ 65536) (l : List (Itm fs)) : tot l ≤ 65536 * l.length := by
  induction l with
  | nil => simp [tot]
  | cons x l ih => have := h x.1 x.2; simp [tot] at ih ⊢; omega
theorem tot_all {fs : List Fil} (l : List (Itm fs)) (h : l.map Subtype.val = fs) : tot l = used (fs.map Fil.ent) := by
  unfold tot used
  conv => rhs; rw [← h]
  simp only [List.map_map]
  rfl
theorem kq_box {gd m Bn n₀ bx : Nat} {W : World} {t : TypeId} {v : Value} (hb : Boxed W bx t v) (hg : gd < W.heap.size) (hm : m < W.heap.size) (hB : Bn < W.heap.size) (h1 : gd ≠ bx) (h2 : m ≠ bx) (h3 : Bn ≠ bx) (h4 : bx < n₀) (k : IntKind) (u : Int) :
    Kq gd m Bn n₀ bx W (W.setCell ⟨bx, 0, none⟩ (.int k u)).drew := by
  refine Kq.of_tu (S := fun x => some x = some bx) (Tu.draw (Tu.grown (grown_set W bx 0 (.int k u)))) hg hm hB (by simpa using h1) (by simpa using h2) (by simpa using h3) (fun x t cs hx => ⟨by have := hx.1; simp; omega, fun a n c e => ?_⟩)
  have := (hb.set (.int k u)).cell
  rw [show (W.setCell ⟨bx, 0, none⟩ (.int k u)).drew.cell? ⟨bx, 0, none⟩ = (W.setCell ⟨bx, 0, none⟩ (.int k u)).cell? ⟨bx, 0, none⟩ from rfl, this] at e
  cases e
def UsI (b : Nat) (w : World) (fs : List Fil) (pre : List (Itm fs)) (W : World) : Prop := Boxed W b 3 (.int .i64 (tot pre)) ∧ Below b w W
def NoX (fs : List Fil) (c : Code) (pre : List (Itm fs)) (W : World) : Prop := False
theorem noX_own (fs : List Fil) (B : Nat) (c : Code) : OwnFrom B (NoX fs c) := fun _ _ _ _ h _ _ => h.elim
theorem boxed_keep {W W' : World} {b : Nat} {t : TypeId} {v : Value} {row : Option Nat} (h : Boxed W b t v) (hg : W.grownBy W' row) (hr : ∀ r, row = some r → ∃ o : Obj, W.heap[r]? = some o ∧ o.isCells = false) : Boxed W' b t v :=
  h.kept hg (fun e => by
    obtain ⟨o, ho, hc⟩ := hr _ e.symm
    rw [show W.heap[_]? = _ from h] at ho; cases ho; cases hc)
theorem usI_own (b : Nat) (w : World) (fs : List Fil) {B : Nat} (hb : b ≤ w.heap.size) (hB : b ≤ B) : OwnFrom B (UsI b w fs) :=
  OwnFrom.and (Own.from (I := fun (s : List (Itm fs)) W => Boxed W b 3 (.int .i64 (tot s))) (fun s A C row hs hg hr => boxed_keep hs hg hr) _) (ownFrom_below hb hB)
theorem Dk.names {w : World} {gd m q : Nat} {fs : List Fil} (h : Dk w gd m q fs) : fs.length ≤ 64 ∧ (∀ f ∈ fs, f.nm.length ≤ 32) ∧ (∀ f ∈ fs, f.bs.length ≤ 65536) ∧ (∀ f ∈ fs, f.su ≤ f.bs.length) ∧ (∀ f ∈ fs, isNm f.nm = true) :=
  ⟨by have := h.good.len; simpa using this, fun f hf => isNm_len (h.good.nms f.ent (List.mem_map_of_mem hf)), fun f hf => h.good.most f.ent (List.mem_map_of_mem hf), fun f hf => h.good.sure f.ent (List.mem_map_of_mem hf), fun f hf => h.good.nms f.ent (List.mem_map_of_mem hf)⟩

set_option maxHeartbeats 2000000 in
theorem used_c {gd m q : Nat} {fs : List Fil} (w : World) (h : Dk w gd m q fs) :
    Calls Try.prog 36 #[.pointer (some ⟨gd, 0, none⟩)] w fun E w' => E = .returned (.int .i64 (used (fs.map Fil.ent))) ∧ Below w.heap.size w w' := by
  obtain ⟨hlen, hnl, hbl, _, _⟩ := h.names
  have HD := Lib.hid h
  have HBL := Lib.hid hbl
  have HTL := Lib.hid (fun l => tot_le hbl l)
  clear hbl
  refine (callsIn_wide (n := 12)).1 ?_
  refine callsIn_of_wp_marks Try.func36 rfl trivial ?_ rfl
  simp only [Try.ntmps36, List.size_toArray, List.length_cons, List.length_nil, Nat.reduceAdd, Nat.reduceSub, Array.replicate_succ, Array.replicate_zero, List.push_toArray, List.append_toArray, List.nil_append, List.cons_append]
  gi_wp2
  refine ⟨trivial, (callsIn_wide.2 (inOrder_c _ _)).mono ?_⟩
  rintro E w1 ⟨rfl, hw1⟩
  gi_wp2
  have hsz1 : w1.heap.size = w.heap.size + 2 := by rw [← hw1]; simp
  have hB1 : Below w.heap.size w w1 := by
    rw [← hw1]; exact ((below_alloc w _).trans ((below_alloc _ _).mono (by simp)))
  have hbx : Boxed w1 w.heap.size 3 (.int .i64 0) := by
    rw [← hw1]
    exact (Boxed.new w 3 (.int .i64 0)).alloc _
  have hcb : Cells w1 (w.heap.size + 1) 22 #[.pointer (some ⟨gd, 0, none⟩)] := by
    rw [← hw1]
    have := Cells.made (w.alloc (.cells #[.int .i64 0] 3)) 22 #[.pointer (some ⟨gd, 0, none⟩)]
    simpa using this
  have hd1 : Dk w1 gd m q fs := HD.out.new hB1
  have hgl := HD.out.blk.lt
  have hml := HD.out.map.lt
  have hcx := hbx.cell
  clear hw1
  refine wpIn_rangeFunc_ownF rfl (by omega) (gf := 47) (lb := #[.pointer (some ⟨w.heap.size + 1, 0, none⟩)]) rfl trivial (enters_of Try.func47 (by kernel_rfl) rfl)
    (inOrder_stops (12 - 1) (by omega) gd m q (w.heap.size + 1) w1.heap.size w.heap.size fs hd1.srt (by omega) (fun f hf => Nat.le_trans (hnl f hf) (by decide)) w1 (Nat.le_refl _) (by omega) (fun a n c e => by rw [hcx] at e; cases e) hd1.dn hcb)
    Kq.trans (Kq.put (by omega) (by omega) (by omega) (by omega)) (Below.refl _ _) (fun _ => rfl)
    (UsI w.heap.size w1 fs) (NoX fs) (usI_own _ w1 fs (by omega) (by omega)) (fun c => noX_own fs _ c) ⟨hbx, Below.refl _ _⟩
    (fun x => { tmps := #[.pointer (some ⟨gd, 0, none⟩), undef, .int .i64 0, .pointer (some ⟨w.heap.size, 0, none⟩), undef, .pointer (some ⟨x.1.g, 0, none⟩), .pointer (some ⟨gd, 0, none⟩), .func (.func 47) #[] #[.pointer (some ⟨w.heap.size + 1, 0, none⟩)], .string (str x.1.nm), .pointer (some ⟨x.1.g, 0, none⟩), undef, undef, undef, undef, undef, undef, undef, undef], defers := [] }) ?assign ?body ?done ?stop
  case assign =>
    intro l x W K hK
    gi_wp2
    exact hK
  case body =>
    rintro l pre x W ⟨hb, hB⟩ hlt
    have hc := hb.cell
    have hf := hb.frozen
    have hff := ((HD.out.new (hB1.trans hB)).fil x.1 x.2).blk
    have cf : W.cell? ⟨x.1.g, 0, none⟩ = some (.slice x.1.ao x.1.bs.length x.1.cap) := by rw [hff.cell]; rfl
    have h1 := HBL.out x.1 x.2
    have h2 := HTL.out pre
    have h3 : pre.length < fs.length := hlt
    have hsum : IntKind.i64.wrap ((tot pre : Int) + (x.1.bs.length : Int)) = ((tot pre + x.1.bs.length : Nat) : Int) := by
      rw [← Int.natCast_add]; exact IntWalk.i64_in _ (by omega)
    have HT := Lib.hid (tot_snoc pre x)
    have HB' := Lib.hid hb
    have HBB := Lib.hid hB
    have hmx : Try.prog.follows .mixedOrders = true := by kernel_rfl
    clear hff h1 h2 h3 hlt
    generalize tot pre + x.1.bs.length = tt at *
    generalize tot pre = tp at *
    gi_wp2
    gi_region_o
    all_goals gi_wp2
    all_goals (
      have hsz := HBB.out.size
      have hl := HB'.out.cell
      have hwl := World.block_lt_of_cell? W _ hl
      refine ⟨(KeepsOthers.setCell _ _ _).trans (KeepsOthers.drew _), kq_box HB'.out (by omega) (by omega) (by omega) (by omega) (by omega) (by omega) (by omega) _ _, by rw [HT.out]; exact HB'.out.set _, (HBB.out.setCell (p := ⟨w.heap.size, 0, none⟩) (Nat.le_refl _) _).drew⟩)
  case done =>
    rintro D xs W hD hxs ⟨hb, hB⟩ hK
    have hc := hb.cell
    have hu := Lib.hid (tot_all xs hxs)
    obtain ⟨u, hxu⟩ : ∃ u, u = tot xs := ⟨_, rfl⟩
    rw [← hxu] at hc
    have HU : Hid (u = used (fs.map Fil.ent)) := by show _ = _; rw [hxu, hu.out]
    clear hxu
    gi_wp2
    refine ⟨by simp, .inl ⟨_, _, rfl, run_takeDeferred hK, ?_⟩⟩
    exact ⟨_, results_tmp rfl _ _ _, by rw [← HU.out]; rfl, (hB1.trans hB).trans (belowK_b (w := w1) (by omega) _ D _ _ hD hK rfl rfl)⟩
  case stop =>
    rintro D c pre W hD hpre h hK
    exact h.elim
theorem usedD_nil {v : Value} (w : World) (h : NilD w v) :
    Calls Try.prog 36 #[v] w fun E w' => E = .returned (.int .i64 0) ∧ Below w.heap.size w w' := by
  obtain ⟨p, rfl⟩ : ∃ p, v = .pointer p := by
    rcases h with rfl | ⟨g, q, rfl, _⟩
    · exact ⟨_, rfl⟩
    · exact ⟨_, rfl⟩
  have HD := Lib.hid h
  clear h
  refine (callsIn_wide (n := 12)).1 ?_
  refine callsIn_of_wp_marks Try.func36 rfl trivial ?_ rfl
  simp only [Try.ntmps36, List.size_toArray, List.length_cons, List.length_nil, Nat.reduceAdd, Nat.reduceSub, Array.replicate_succ, Array.replicate_zero, List.push_toArray, List.append_toArray, List.nil_append, List.cons_append]
  gi_wp2
  refine ⟨trivial, (callsIn_wide.2 (inOrder_c _ _)).mono ?_⟩
  rintro E w1 ⟨rfl, hw1⟩
  gi_wp2
  have hsz1 : w1.heap.size = w.heap.size + 2 := by rw [← hw1]; simp
  have hB1 : Below w.heap.size w w1 := by
    rw [← hw1]; exact ((below_alloc w _).trans ((below_alloc _ _).mono (by simp)))
  have hbx : Boxed w1 w.heap.size 3 (.int .i64 0) := by
    rw [← hw1]
    exact (Boxed.new w 3 (.int .i64 0)).alloc _
  have hcb : Cells w1 (w.heap.size + 1) 22 #[.pointer p] := by
    rw [← hw1]
    have := Cells.made (w.alloc (.cells #[.int .i64 0] 3)) 22 #[.pointer p]
    simpa using this
  have hd1 : NilD w1 (.pointer p) := HD.out.new hB1
  clear hw1
  refine wpIn_rangeFunc_ownF rfl (by omega) (gf := 47) (lb := #[.pointer (some ⟨w.heap.size + 1, 0, none⟩)]) rfl trivial (enters_of Try.func47 (by kernel_rfl) rfl)
    (inOrder_nil (12 - 1) (by omega) (w.heap.size + 1) (.pointer p) w1 (Below w.heap.size) hd1 hcb)
    belowK_t (belowK_b (by omega)) (Below.refl _ _) (fun _ => rfl)
    (UsI w.heap.size w1 []) (NoX []) (usI_own _ w1 [] (by omega) (by omega)) (fun c => noX_own [] _ c) ⟨hbx, Below.refl _ _⟩
    (fun x => { tmps := #[.pointer p, undef, .int .i64 0, .pointer (some ⟨w.heap.size, 0, none⟩), undef, .pointer (some ⟨x.1.g, 0, none⟩), .pointer p, .func (.func 47) #[] #[.pointer (some ⟨w.heap.size + 1, 0, none⟩)], .string (str x.1.nm), .pointer (some ⟨x.1.g, 0, none⟩), undef, undef, undef, undef, undef, undef, undef, undef], defers := [] }) ?assign ?body ?done ?stop
  case assign =>
    intro l x W K hK
    gi_wp2
    exact hK
  case body => exact fun l pre x W h hl => absurd hl (Nat.not_lt_zero _)
  case done =>
    rintro D xs W hD rfl ⟨hb, hB⟩ hK
    have hc := hb.cell
    rw [show tot (fs := []) [] = 0 from rfl] at hc
    gi_wp2
    refine ⟨by simp, .inl ⟨_, _, rfl, run_takeDeferred hK, ?_⟩⟩
    exact ⟨_, results_tmp rfl _ _ _, by rfl, (hB1.trans hB).trans (belowK_b (w := w1) (by omega) _ D _ _ hD hK rfl rfl)⟩
  case stop =>
    rintro D c pre W hD hpre h hK
    exact h.elim
/-- A list of names in a row of one's own. -/
def Lst (w : World) (B : Nat) (v : Value) (l : List (List UInt8)) : Prop := w.ownsRow B 9 1 v l.length (l.map fun n => .string (str n))
theorem info_st : (Try.prog.info? 9).map (fun i => (i.zero, i.size, i.bytes)) = some (some (.string ⟨#[]⟩), 1, 16) := by kernel_rfl
def LsI (b : Nat) (w : World) (fs : List Fil) (pre : List (Itm fs)) (W : World) : Prop :=
  (∃ v, Boxed W b 32 v ∧ Lst W w.heap.size v (pre.map fun x => x.1.nm)) ∧ Below b w W
theorem lst_keep {W W' : World} {B : Nat} {v : Value} {l : List (List UInt8)} {row : Option Nat} (h : Lst W B v l) (hg : W.grownBy W' row)
    (hr : ∀ r, row = some r → ∃ o : Obj, W.heap[r]? = some o ∧ o.isCells = false) : Lst W' B v l := by
  refine World.ownsRow.kept h hg ?_
  rcases h.2 with ⟨rfl, _⟩ | ⟨g, cap, cur, rfl, _, hgb, _⟩
  · exact .inl rfl
  · refine .inr fun e' => ?_
    obtain ⟨o, ho, hc⟩ := hr g (by simpa [Value.ownBlock] using e'.symm)
    rw [hgb] at ho; cases ho; cases hc
theorem lsI_own (b : Nat) (w : World) (fs : List Fil) {B : Nat} (hb : b ≤ w.heap.size) (hB : b ≤ B) : OwnFrom B (LsI b w fs) :=
  OwnFrom.and (Own.from (I := fun (s : List (Itm fs)) W => ∃ v, Boxed W b 32 v ∧ Lst W w.heap.size v (s.map fun x => x.1.nm)) (fun s A C row hs hg hr => by obtain ⟨v, h1, h2⟩ := hs; exact ⟨v, boxed_keep h1 hg hr, lst_keep h2 hg hr⟩) _) (ownFrom_below hb hB)

set_option maxHeartbeats 2000000 in
theorem list_c {gd m q : Nat} {fs : List Fil} (w : World) (h : Dk w gd m q fs) :
    Calls Try.prog 27 #[.pointer (some ⟨gd, 0, none⟩)] w fun E w' => ∃ v, E = .returned v ∧ Lst w' w.heap.size v (fs.map Fil.nm) ∧ Below w.heap.size w w' := by
  obtain ⟨hlen, hnl, _⟩ := h.names
  obtain ⟨i0, hi0, hz0, hz1, hz2⟩ := info_parts info_st
  have HI0 := Lib.hid hi0
  have HZ0 := Lib.hid hz0
  have HZ1 := Lib.hid hz1
  have HZ2 := Lib.hid hz2
  clear hi0 hz0 hz1 hz2
  have HD := Lib.hid h
  clear h
  refine (callsIn_wide (n := 12)).1 ?_
  refine callsIn_of_wp_marks Try.func27 rfl trivial ?_ rfl
  simp only [Try.ntmps27, List.size_toArray, List.length_cons, List.length_nil, Nat.reduceAdd, Nat.reduceSub, Array.replicate_succ, Array.replicate_zero, List.push_toArray, List.append_toArray, List.nil_append, List.cons_append]
  gi_wp2
  refine ⟨trivial, (callsIn_wide.2 (inOrder_c _ _)).mono ?_⟩
  rintro E w1 ⟨rfl, hw1⟩
  gi_wp2
  have hsz1 : w1.heap.size = w.heap.size + 2 := by rw [← hw1]; simp
  have hB1 : Below w.heap.size w w1 := by
    rw [← hw1]; exact ((below_alloc w _).trans ((below_alloc _ _).mono (by simp)))
  have hbx : Boxed w1 w.heap.size 32 (.slice none 0 0) := by
    rw [← hw1]
    exact (Boxed.new w 32 (.slice none 0 0)).alloc _
  have hcb : Cells w1 (w.heap.size + 1) 22 #[.pointer (some ⟨gd, 0, none⟩)] := by
    rw [← hw1]
    have := Cells.made (w.alloc (.cells #[.slice none 0 0] 32)) 22 #[.pointer (some ⟨gd, 0, none⟩)]
    simpa using this
  have hd1 : Dk w1 gd m q fs := HD.out.new hB1
  have hgl := HD.out.blk.lt
  have hml := HD.out.map.lt
  have hcx := hbx.cell
  clear hw1
  refine wpIn_rangeFunc_ownF rfl (by omega) (gf := 47) (lb := #[.pointer (some ⟨w.heap.size + 1, 0, none⟩)]) rfl trivial (enters_of Try.func47 (by kernel_rfl) rfl)
    (inOrder_stops (12 - 1) (by omega) gd m q (w.heap.size + 1) w1.heap.size w.heap.size fs hd1.srt (by omega) (fun f hf => Nat.le_trans (hnl f hf) (by decide)) w1 (Nat.le_refl _) (by omega) (fun a n c e => by rw [hcx] at e; cases e) hd1.dn hcb)
    Kq.trans (Kq.put (by omega) (by omega) (by omega) (by omega)) (Below.refl _ _) (fun _ => rfl)
    (LsI w.heap.size w1 fs) (NoX fs) (lsI_own _ w1 fs (by omega) (by omega)) (fun c => noX_own fs _ c) ⟨⟨_, hbx, World.ownsRow_nil _ _ _ _⟩, Below.refl _ _⟩
    (fun x => { tmps := #[.pointer (some ⟨gd, 0, none⟩), undef, .slice none 0 0, .pointer (some ⟨w.heap.size, 0, none⟩), .string (str x.1.nm), .pointer (some ⟨gd, 0, none⟩), .func (.func 47) #[] #[.pointer (some ⟨w.heap.size + 1, 0, none⟩)], .string (str x.1.nm), .pointer (some ⟨x.1.g, 0, none⟩), undef, undef, undef, undef, undef], defers := [] }) ?assign ?body ?done ?stop
  case assign =>
    intro l x W K hK
    gi_wp2
    exact hK
  case body =>
    rintro l pre x W ⟨⟨v, hb, hrow⟩, hB⟩ hlt
    obtain ⟨ao, cap, rfl, _⟩ := row_form hrow
    have hlt' : pre.length < fs.length := hlt
    have hc := hb.cell
    have hf := hb.frozen
    have HB := Lib.hid hb
    have HBB := Lib.hid hB
    have HROW := Lib.hid hrow
    have hpl : (pre.map fun x => x.1.nm).length = pre.length := by simp
    have hb1 : (pre.map fun x => x.1.nm).length + 1 ≤ maxLen := by rw [hpl]; unfold maxLen; omega
    have hb2 : ((pre.map fun x => x.1.nm).length + 1) * 16 ≤ 140737488355328 := by rw [hpl]; omega
    have HPS : Hid ((pre ++ [x]).map (fun x => x.1.nm) = (pre.map fun x => x.1.nm) ++ [x.1.nm]) := by show _ = _; simp
    have hsz := hB.size
    clear hpl hlt hlt'
    generalize (pre.map fun x => x.1.nm) = nl at *
    gi_wp2_with (gi_at_builtin; refine wpListIn_append_own_at _ rfl _ _ 32 rfl w1.heap.size 9 i0 (.string ⟨#[]⟩) 1 16 Try.underlying32 HI0.out HZ0.out HZ1.out HZ2.out rfl (by decide) _ _ _ rfl (World.ownsRow.alloc HROW.out _) ⟨W.heap.size, 0, none⟩ 1 1 [.string (str x.1.nm)] rfl rfl (cell_one_new _ _ _) (by simp [Value.oneCell']) hb1 hb2 (by simp; omega) ?_; intro v' w2 hown' hgrow _ hat; obtain ⟨g', cap', rfl⟩ := ownsRow_succ hown'; obtain ⟨hv1, hv2, hr2, hk2, hb2'⟩ := HB.out.appended (by decide) (ownsRow_base_a HROW.out (show w.heap.size ≤ _ by omega)) (by omega) (Nat.le_refl _) (ownsRow_base_a hown' (show w.heap.size ≤ _ by omega)) hgrow; have hc1' := hv1.cell; have hf1' := hv1.frozen)
    have hr3 := hown'.kept (grownBy_setCell' w2 w.heap.size (.slice (some ⟨g', 0, none⟩) (nl.length + 1) cap')) (.inr (hv1.not_row (by decide) hown').symm)
    have hTu : Tu (fun y => some y = (Value.slice ao nl.length cap).ownBlock ∨ y = w.heap.size) W (w2.setCell ⟨w.heap.size, 0, none⟩ (.slice (some ⟨g', 0, none⟩) (nl.length + 1) cap')) :=
      ((Tu.fresh (S := fun y => some y = (Value.slice ao nl.length cap).ownBlock ∨ y = w.heap.size) (World.grownBy_alloc W _ none)).trans (Tu.grown hgrow) (fun _ _ h => .inl h)).trans (Tu.grown (grown_set w2 w.heap.size 0 _)) (fun _ _ h => .inr (Option.some.inj h))
    have hge : ∀ y, (Value.slice ao nl.length cap).ownBlock = some y → w1.heap.size ≤ y := fun y hy => (HROW.out.lt y hy).1
    refine ⟨hk2, Kq.of_tu hTu (by omega) (by omega) (by omega) ?_ ?_ ?_ (fun y t cs hy => ⟨?_, ?_⟩), ⟨_, hv2, ?_⟩, HBB.out.trans hb2'⟩
    · rintro (e | e)
      · have := hge gd e.symm; omega
      · omega
    · rintro (e | e)
      · have := hge m e.symm; omega
      · omega
    · rintro (e | e)
      · have := hge _ e.symm; omega
      · omega
    · rintro (e | e)
      · cases hao : ao with
        | none => rw [hao] at e; cases e
        | some a => rw [hao] at e hc; exact hy.2.2 a _ _ hc (by simpa [Value.ownBlock] using e.symm)
      · have := hy.1; omega
    · intro a n c e
      rw [hv2.cell] at e
      injection e with e
      injection e with e1 e2 e3
      injection e1 with e1
      subst e1
      rcases hat with hat | hat
      · have hat1 : some g' = (Value.slice ao nl.length cap).ownBlock := hat
        cases hao : ao with
        | none => rw [hao] at hat1; cases hat1
        | some a =>
          rw [hao] at hat1 hc
          have h1 := hy.2.2 a _ _ hc
          have h2 : g' = a.block := Option.some.inj hat1
          intro e
          exact h1 (by rw [← h2]; exact e)
      · have h1 := hy.2.1.lt
        have h2 : some g' = some (W.alloc (.cells #[.string (str x.1.nm)] 9)).heap.size := hat
        have h3 := Option.some.inj h2
        rw [World.size_alloc] at h3
        show g' ≠ y
        omega
    · rw [HPS.out]
      unfold Lst
      rw [List.map_append, List.length_append]
      exact hr3
  case done =>
    rintro D xs W hD hxs ⟨⟨v, hb, hrow⟩, hB⟩ hK
    have hc := hb.cell
    have hn : (xs.map fun x => x.1.nm) = fs.map Fil.nm := by
      have e : (xs.map fun x => x.1.nm) = (xs.map Subtype.val).map Fil.nm := by rw [List.map_map]; rfl
      rw [e, hxs]
    rw [hn] at hrow
    have HRO := Lib.hid hrow
    clear hn hrow hxs
    gi_wp2
    refine ⟨by simp, .inl ⟨_, _, rfl, run_takeDeferred hK, ?_⟩⟩
    exact ⟨_, results_tmp rfl _ _ _, _, by rfl, lst_keep (ownsRow_base_a HRO.out (by omega)) (grownBy_putObj' _ D _) (fun r e => by cases e; exact ⟨_, hK, rfl⟩), (hB1.trans hB).trans (belowK_b (w := w1) (by omega) _ D _ _ hD hK rfl rfl)⟩
  case stop =>
    rintro D c pre W hD hpre h hK
    exact h.elim
theorem list_nil {v : Value} (w : World) (h : NilD w v) :
    Calls Try.prog 27 #[v] w fun E w' => ∃ v, E = .returned v ∧ Lst w' w.heap.size v [] ∧ Below w.heap.size w w' := by
  obtain ⟨p, rfl⟩ : ∃ p, v = .pointer p := by
    rcases h with rfl | ⟨g, q, rfl, _⟩
    · exact ⟨_, rfl⟩
    · exact ⟨_, rfl⟩
  have HD := Lib.hid h
  clear h
  refine (callsIn_wide (n := 12)).1 ?_
  refine callsIn_of_wp_marks Try.func27 rfl trivial ?_ rfl
  simp only [Try.ntmps27, List.size_toArray, List.length_cons, List.length_nil, Nat.reduceAdd, Nat.reduceSub, Array.replicate_succ, Array.replicate_zero, List.push_toArray, List.append_toArray, List.nil_append, List.cons_append]
  gi_wp2
  refine ⟨trivial, (callsIn_wide.2 (inOrder_c _ _)).mono ?_⟩
  rintro E w1 ⟨rfl, hw1⟩
  gi_wp2
  have hsz1 : w1.heap.size = w.heap.size + 2 := by rw [← hw1]; simp
  have hB1 : Below w.heap.size w w1 := by
    rw [← hw1]; exact ((below_alloc w _).trans ((below_alloc _ _).mono (by simp)))
  have hbx : Boxed w1 w.heap.size 32 (.slice none 0 0) := by
    rw [← hw1]
    exact (Boxed.new w 32 (.slice none 0 0)).alloc _
  have hcb : Cells w1 (w.heap.size + 1) 22 #[.pointer p] := by
    rw [← hw1]
    have := Cells.made (w.alloc (.cells #[.slice none 0 0] 32)) 22 #[.pointer p]
    simpa using this
  have hd1 : NilD w1 (.pointer p) := HD.out.new hB1
  clear hw1
  refine wpIn_rangeFunc_ownF rfl (by omega) (gf := 47) (lb := #[.pointer (some ⟨w.heap.size + 1, 0, none⟩)]) rfl trivial (enters_of Try.func47 (by kernel_rfl) rfl)
    (inOrder_nil (12 - 1) (by omega) (w.heap.size + 1) (.pointer p) w1 (Below w.heap.size) hd1 hcb)
    belowK_t (belowK_b (by omega)) (Below.refl _ _) (fun _ => rfl)
    (LsI w.heap.size w1 []) (NoX []) (lsI_own _ w1 [] (by omega) (by omega)) (fun c => noX_own [] _ c) ⟨⟨_, hbx, World.ownsRow_nil _ _ _ _⟩, Below.refl _ _⟩
    (fun x => { tmps := #[.pointer p, undef, .slice none 0 0, .pointer (some ⟨w.heap.size, 0, none⟩), .string (str x.1.nm), .pointer p, .func (.func 47) #[] #[.pointer (some ⟨w.heap.size + 1, 0, none⟩)], .string (str x.1.nm), .pointer (some ⟨x.1.g, 0, none⟩), undef, undef, undef, undef, undef], defers := [] }) ?assign ?body ?done ?stop
  case assign =>
    intro l x W K hK
    gi_wp2
    exact hK
  case body => exact fun l pre x W h hl => absurd hl (Nat.not_lt_zero _)
  case done =>
    rintro D xs W hD rfl ⟨⟨v, hb, hrow⟩, hB⟩ hK
    have hc := hb.cell
    have HRO := Lib.hid hrow
    clear hrow
    gi_wp2
    refine ⟨by simp, .inl ⟨_, _, rfl, run_takeDeferred hK, ?_⟩⟩
    exact ⟨_, results_tmp rfl _ _ _, _, by rfl, lst_keep (ownsRow_base_a HRO.out (by omega)) (grownBy_putObj' _ D _) (fun r e => by cases e; exact ⟨_, hK, rfl⟩), (hB1.trans hB).trans (belowK_b (w := w1) (by omega) _ D _ _ hD hK rfl rfl)⟩
  case stop =>
    rintro D c pre W hD hpre h hK
    exact h.elim
end Go.Proofs.Ythjhjbiihhpnfaa
