/- frame.All: the items of the range function, collected. -/
import Derived.RangeFuncNested
import Derived.RangeFuncBound
import Derived.RangeFuncCalls
import Derived.RangeFuncLeaves
import Derived.RangeFuncBox
import Derived.Shelf.Abstract
import Derived.Shelf.RegionOpen
import Derived.WalkKit
import Derived.OwnWalkIn
import Derived.TacticsInMore
import Derived.LoopNIn
import Derived.LoopIn
import Derived.Maps.AppendAt
import Derived.Test.YtgbieihobcindaaDoorFn
namespace Go.Proofs.YtgbieihobcindaaDoor
open Go.RowKit Go.Shelf
set_option linter.unusedVariables false
attribute [local go_sem] Oper.semAt_some

def strs (ps : List (List UInt8)) : List Value := ps.map (fun p => Value.string (str p))
theorem strs_snoc (ps : List (List UInt8)) (p : List UInt8) : strs (ps ++ [p]) = strs ps ++ [.string (str p)] := by simp [strs]
theorem strs_length (ps : List (List UInt8)) : (strs ps).length = ps.length := by simp [strs]
theorem info_str : (Tryd.prog.info? 9).map (fun i => (i.zero, i.size, i.bytes)) = some (some (.string ⟨#[]⟩), 1, 16) := by kernel_rfl
/-- A list of strings lies in a row of its own, from block B on. -/
def Strs (w : World) (B : Nat) (v : Value) (ps : List (List UInt8)) : Prop := w.ownsRow B 9 1 v ps.length (strs ps)
theorem strs_kept {W W' : World} {B : Nat} {v : Value} {ps : List (List UInt8)} {row : Option Nat} (h : Strs W B v ps) (hg : W.grownBy W' row)
    (hr : ∀ r, row = some r → ∃ o : Obj, W.heap[r]? = some o ∧ o.isCells = false) : Strs W' B v ps := by
  refine World.ownsRow.kept h hg ?_
  rcases h.2 with ⟨rfl, _⟩ | ⟨g, cap, cur, rfl, _, hgb, _⟩
  · exact .inl rfl
  · refine .inr fun e' => ?_
    obtain ⟨o, ho, hc⟩ := hr g (by simpa [Value.ownBlock] using e'.symm)
    rw [hgb] at ho; cases ho; cases hc
theorem strs_set {W : World} {n₀ b : Nat} {t : TypeId} {u v : Value} {ps : List (List UInt8)} (hb : Boxed W b t u) (hte : t ≠ 9) (h : Strs W n₀ v ps) (u' : Value) : Strs (W.setCell ⟨b, 0, none⟩ u') n₀ v ps :=
  World.ownsRow.kept h (grownBy_setCell' W b u') (.inr (hb.not_row hte h).symm)
theorem strs_set3 {W : World} {n₀ B : Nat} {v0 v1 v2 v : Value} {ps : List (List UInt8)} (hb : Box3 W B 33 v0 v1 v2) (h : Strs W n₀ v ps) (u0 u1 u2 : Value) :
    Strs (((W.setCell ⟨B, 0, none⟩ u0).setCell ⟨B + 1, 0, none⟩ u1).setCell ⟨B + 1 + 1, 0, none⟩ u2) n₀ v ps :=
  strs_set (((hb.2.2.other (by omega) _).other (by omega) _)) (by decide) (strs_set (hb.2.1.other (by omega) _) (by decide) (strs_set hb.1 (by decide) h _) _) _
def AllI (w : World) (pre : List Item) (W : World) : Prop :=
  ((∀ x ∈ pre, x.e = 0) ∧ ∃ v, Box3 W w.heap.size 33 v (.int .i64 (tot (pays pre))) (.int .i64 0) ∧ Strs W w.heap.size v (pays pre)) ∧ Below w.heap.size w W
def AllX (w : World) (c : Code) (pre : List Item) (W : World) : Prop :=
  (c = .ret ∧ ∃ (ps : List Item) (x : Item), pre = ps ++ [x] ∧ (∀ y ∈ ps, y.e = 0) ∧ x.e ≠ 0 ∧
    ∃ v, Box3 W w.heap.size 33 v (.int .i64 (tot (pays ps))) (.int .i64 x.e) ∧ Strs W w.heap.size v (pays ps)) ∧ Below w.heap.size w W
theorem allI_own (w : World) {B : Nat} (hB : w.heap.size ≤ B) : OwnFrom B (AllI w) :=
  OwnFrom.and (Own.from (fun s A B row hs hg hr => by obtain ⟨h, v, hv, hrow⟩ := hs; exact ⟨h, v, box3_kept hv hg hr, strs_kept hrow hg hr⟩) _) (ownFrom_below (Nat.le_refl _) hB)
theorem allX_own (w : World) (c : Code) {B : Nat} (hB : w.heap.size ≤ B) : OwnFrom B (AllX w c) :=
  OwnFrom.and (Own.from (fun s A B row hs hg hr => by obtain ⟨h, ps, x, e1, e2, e3, v, hv, hrow⟩ := hs; exact ⟨h, ps, x, e1, e2, e3, v, box3_kept hv hg hr, strs_kept hrow hg hr⟩) _) (ownFrom_below (Nat.le_refl _) hB)
theorem pays_len (xs : List Item) : (pays xs).length = xs.length := by simp [pays]
theorem tot_le (xs : List Item) : tot (pays xs) ≤ 4102 * xs.length := by
  induction xs with
  | nil => simp [pays, tot]
  | cons x xs ih => have := x.hp; simp only [pays, List.map_cons, tot_cons, List.length_cons] at ih ⊢; omega

theorem stop_key (s : List UInt8) (ps : List Item) (x : Item) (hpre : ps ++ [x] <+: items s) (hx0 : x.e ≠ 0) : pays ps = (all s).l ∧ x.e = (all s).err := by
  obtain ⟨hu, hi⟩ := items_all s.length s (Nat.le_refl _)
  rcases hi with ⟨e1, e2, e3⟩ | ⟨e1, ys, e2, e3, e4⟩
  · exact absurd (e3 x (hpre.subset (by simp))) hx0
  · obtain ⟨t, ht⟩ := hpre
    rw [e2] at ht
    rcases List.eq_nil_or_concat t with rfl | ⟨t', z, rfl⟩
    · rw [List.append_nil] at ht
      obtain ⟨h1, h2⟩ := List.append_inj' ht rfl
      have h3 := (List.cons.inj h2).1
      subst h1
      rw [h3]
      exact ⟨e3, rfl⟩
    · rw [List.concat_eq_append, ← List.append_assoc] at ht
      obtain ⟨h1, _⟩ := List.append_inj' ht rfl
      exact absurd (e4 x (by rw [← h1]; simp)) hx0
set_option maxRecDepth 100000 in
set_option maxHeartbeats 2000000 in
theorem all_c (s : List UInt8) (w : World) (hs : s.length ≤ 1048576) (ht : Tab w) :
    Calls Tryd.prog 14 #[.string (str s)] w fun E w' => ∃ v, E = .returned (.tuple #[v, .int .i64 (all s).used, .int .i64 (all s).err]) ∧ Strs w' w.heap.size v (all s).l ∧ Below w.heap.size w w' := by
  have HT := Lib.hid ht
  have H0 := Lib.hid ht.1
  clear ht
  obtain ⟨i0, hi0, hz0, hz1, hz2⟩ := info_parts info_str
  have HI0 := Lib.hid hi0
  have HZ0 := Lib.hid hz0
  have HZ1 := Lib.hid hz1
  have HZ2 := Lib.hid hz2
  clear hi0 hz0 hz1 hz2
  have hilen := items_len s.length s (Nat.le_refl _)
  refine (callsIn_wide (n := 9)).1 ?_
  refine callsIn_of_wp_marks Tryd.func14 rfl trivial ?_ rfl
  simp only [Tryd.ntmps14, List.size_toArray, List.length_cons, List.length_nil, Nat.reduceAdd, Nat.reduceSub, Array.replicate_succ, Array.replicate_zero, List.push_toArray, List.append_toArray, List.nil_append, List.cons_append]
  gi_wp2
  refine ⟨trivial, (callsIn_wide.2 (frames_c s _)).mono ?_⟩
  rintro E w1 ⟨rfl, hw1⟩
  gi_wp2
  have hsz1 : w1.heap.size = w.heap.size + 4 := by rw [← hw1]; simp
  have hB1 : Below w.heap.size w w1 := by
    rw [← hw1]; exact ((((Below.refl _ w).alloc (Nat.le_refl _) _).alloc (by simp) _).alloc (by simp; omega) _).alloc (by simp; omega) _
  have hc1 : w1.cell? ⟨w.heap.size + 1 + 1 + 1, 0, none⟩ = some (.string (str s)) := by
    have := (Boxed.new (((w.alloc (.cells #[.slice none 0 0] 33)).alloc (.cells #[.int .i64 0] 3)).alloc (.cells #[.int .i64 0] 23)) 9 (.string (str s))).cell
    simp only [World.size_alloc] at this
    rw [← hw1]; exact this
  have hb1 : Box3 w1 w.heap.size 33 (.slice none 0 0) (.int .i64 0) (.int .i64 0) := by
    rw [← hw1]; exact box3_kept (box3_new w 33 _ _ _) (World.grownBy_alloc _ _ none) (by simp)
  have ht1 : Tab w1 := tab_b HT.out H0.out hB1
  clear hw1
  refine wpIn_rangeFunc_ownF rfl (by omega) (gf := 33) (lb := #[.pointer (some ⟨w.heap.size + 1 + 1 + 1, 0, none⟩)]) rfl trivial (enters_of Tryd.func33 (by kernel_rfl) rfl)
    (frames_stops (9 - 1) (by omega) (w.heap.size + 1 + 1 + 1) w.heap.size s w1 (by omega) H0.out (by omega) (by omega) hc1 ht1) belowK_t (belowK_b (by omega)) (Below.refl _ _) (fun _ => rfl)
    (AllI w) (AllX w) (allI_own w (by omega)) (fun c => allX_own w c (by omega)) ⟨⟨by simp, .slice none 0 0, hb1, World.ownsRow_nil _ _ _ _⟩, hB1⟩
    (fun x => { tmps := #[.string (str s), undef, .pointer (some ⟨w.heap.size, 0, none⟩), .pointer (some ⟨w.heap.size + 1, 0, none⟩), .pointer (some ⟨w.heap.size + 1 + 1, 0, none⟩), .string (str x.p), .int .i64 x.e, .string (str s), .func (.func 33) #[] #[.pointer (some ⟨w.heap.size + 1 + 1 + 1, 0, none⟩)], .string (str x.p), .int .i64 x.e, undef, undef, undef, undef, undef, undef, undef, undef, undef, undef, undef, undef, undef, undef, undef], defers := [] }) ?assign ?body ?done ?stop
  case assign =>
    intro l x W K hK
    gi_wp2
    exact hK
  case body =>
    rintro l pre x W ⟨⟨hz, v, hb, hrow⟩, hB⟩ hlt
    obtain ⟨ao, cap, rfl⟩ := row_shape hrow
    have c0 := hb.1.cell
    have c1 := hb.2.1.cell
    have c2 := hb.2.2.cell
    have f0 := hb.1.frozen
    have f1 := hb.2.1.frozen
    have f2 := hb.2.2.frozen
    have hmx : Tryd.prog.follows .mixedOrders = true := by kernel_rfl
    have hd : 1 ≤ 9 - 1 - 1 := by omega
    by_cases he : x.e = 0
    · have HE := Lib.hid he
      have hp := x.hp
      have htl := tot_le pre
      have hpl := pays_len pre
      have hb1 : (pays pre).length + 1 ≤ maxLen := by unfold maxLen; omega
      have hb2 : ((pays pre).length + 1) * 16 ≤ 140737488355328 := by omega
      clear hpl
      gi_wp2_with (gi_at_builtin; refine wpListIn_append_own _ rfl _ _ 33 rfl w.heap.size 9 i0 (.string ⟨#[]⟩) 1 16 Tryd.underlying33 HI0.out HZ0.out HZ1.out HZ2.out rfl (by decide) _ _ _ rfl (hrow.alloc _) ⟨W.heap.size, 0, none⟩ 1 1 [.string (str x.p)] rfl rfl (cell_one_new _ _ _) (by simp [Value.oneCell']) hb1 hb2 (by have := hB.size; simp; omega) ?_; intro v' w2 hown' hgrow _; obtain ⟨g', cap', rfl⟩ := ownsRow_succ hown'; obtain ⟨hv1, hv2, hr2, hk2, hb2'⟩ := hb.1.appended (by decide) hrow hB.size (Nat.le_refl _) hown' hgrow; have hc1' := hv1.cell; have hf1' := hv1.frozen)
      have d0 := hv2
      have d1 := ((hb.2.1.alloc (.cells #[.string (str x.p)] 9)).kept hgrow (hb.2.1.not_row (by decide) hrow)).other (B' := w.heap.size) (by omega) (.slice (some ⟨g', 0, none⟩) ((pays pre).length + 1) cap')
      have d2 := ((hb.2.2.alloc (.cells #[.string (str x.p)] 9)).kept hgrow (hb.2.2.not_row (by decide) hrow)).other (B' := w.heap.size) (by omega) (.slice (some ⟨g', 0, none⟩) ((pays pre).length + 1) cap')
      clear hv1 hv2 hc1' hf1' hown' hgrow c0 c1 c2 f0 f1 f2
      generalize w2.setCell ⟨w.heap.size, 0, none⟩ (.slice (some ⟨g', 0, none⟩) ((pays pre).length + 1) cap') = W3 at *
      have c1 := d1.cell
      have f1 := d1.frozen
      have htt : tot (pays pre) ≤ 5000000000000 := by omega
      have hsum : IntKind.i64.wrap ((tot (pays pre) : Int) + ((6 + x.p.length : Nat) : Int)) = ((tot (pays pre) + (6 + x.p.length) : Nat) : Int) := by
        rw [← Int.natCast_add]; exact IntWalk.i64_in _ (by omega)
      generalize htq : tot (pays pre) = q at *
      generalize hpq : 6 + x.p.length = r at *
      generalize hqr : q + r = qr at *
      gi_region_with_o (first | (refine ⟨trivial, ?_⟩; gi_at_call 27; refine (CallsIn.inRound l (callsIn_wide.2 (size_c x.p _ (by omega)))).mono ?_; rw [hpq]; rintro e w' ⟨rfl, rfl⟩))
      all_goals gi_wp2
      all_goals (try go_bits)
      all_goals exact ⟨(hk2.trans (KeepsOthers.setCell _ _ _)).trans (KeepsOthers.drew _), (hb2'.setCell (p := ⟨w.heap.size + 1, 0, none⟩) (Nat.le_succ _) _).drew,
        ⟨fun y hy => (List.mem_append.1 hy).elim (hz y) (fun h => by rw [List.mem_singleton.1 h]; exact HE.out), _,
          ⟨d0.other (by omega) _, by rw [pays_snoc, tot_snoc, htq, hpq, hqr]; exact d1.set _, d2.other (by omega) _⟩,
          strs_set d1 (by decide) (by rw [pays_snoc]; unfold Strs; rw [strs_snoc, List.length_append]; exact hr2) _⟩,
        ((hB.trans hb2').setCell (p := ⟨w.heap.size + 1, 0, none⟩) (Nat.le_succ _) _).drew⟩
    · have hb0 : (x.e == 0) = false := beq_eq_false_iff_ne.2 he
      have HE := Lib.hid he
      clear he
      gi_wp2
      gi_region_o
      all_goals gi_wp2
      all_goals exact ⟨(keeps3 _ _ _ _ _ _ _).trans (KeepsOthers.drew _), ⟨rfl, pre, x, rfl, hz, HE.out, _, box3_set hb _ _ _, strs_set3 hb hrow _ _ _⟩, (hB.trans (below3 (Nat.le_refl _) _ _ _)).drew⟩
  case done =>
    rintro D xs W hD rfl ⟨⟨hz, v, hb, hrow⟩, hB⟩ hK
    obtain ⟨hu, hi⟩ := items_all s.length s (Nat.le_refl _)
    rcases hi with ⟨e1, e2, _⟩ | ⟨e1, ys, e2, _⟩
    rotate_left
    · exact absurd (hz ⟨[], (all s).err, by simp⟩ (by rw [e2]; simp)) e1
    rw [e2] at hb hrow
    rw [← hu] at hb
    clear hu
    obtain ⟨ao, cap, rfl⟩ := row_shape hrow
    have c0 := hb.1.cell
    have c1 := hb.2.1.cell
    have c2 := hb.2.2.cell
    have f0 := hb.1.frozen
    have f1 := hb.2.1.frozen
    have f2 := hb.2.2.frozen
    have hmx : Tryd.prog.follows .mixedOrders = true := by kernel_rfl
    have hA : Hid ((all s).err = 0) := e1
    have HBX := Lib.hid (box3_set hb (.slice ao (all s).l.length cap) (.int .i64 (all s).used) (.int .i64 0))
    have HSX := Lib.hid (strs_set3 hb hrow (.slice ao (all s).l.length cap) (.int .i64 (all s).used) (.int .i64 0))
    have HKX := Lib.hid ((keeps3 W w.heap.size (w.heap.size + 1) (w.heap.size + 1 + 1) (.slice ao (all s).l.length cap) (.int .i64 (all s).used) (.int .i64 0)).same D _ hK rfl)
    have HBB := Lib.hid (hB.trans (below3 (Nat.le_refl w.heap.size) (.slice ao (all s).l.length cap) (.int .i64 (all s).used) (.int .i64 0)))
    gi_wp2
    gi_region_o
    all_goals gi_wp2
    all_goals (
      have hK' := show (((W.setCell ⟨w.heap.size, 0, none⟩ (.slice ao (all s).l.length cap)).setCell ⟨w.heap.size + 1, 0, none⟩ (.int .i64 (all s).used)).setCell ⟨w.heap.size + 1 + 1, 0, none⟩ (.int .i64 0)).drew.heap[D]? = _ from HKX.out
      have hB' := show Below w.heap.size w ((((W.setCell ⟨w.heap.size, 0, none⟩ (.slice ao (all s).l.length cap)).setCell ⟨w.heap.size + 1, 0, none⟩ (.int .i64 (all s).used)).setCell ⟨w.heap.size + 1 + 1, 0, none⟩ (.int .i64 0)).drew) from HBB.out.drew
      have hX := show Box3 ((((W.setCell ⟨w.heap.size, 0, none⟩ (.slice ao (all s).l.length cap)).setCell ⟨w.heap.size + 1, 0, none⟩ (.int .i64 (all s).used)).setCell ⟨w.heap.size + 1 + 1, 0, none⟩ (.int .i64 0)).drew) w.heap.size 33 _ _ _ from HBX.out
      have hS := show Strs ((((W.setCell ⟨w.heap.size, 0, none⟩ (.slice ao (all s).l.length cap)).setCell ⟨w.heap.size + 1, 0, none⟩ (.int .i64 (all s).used)).setCell ⟨w.heap.size + 1 + 1, 0, none⟩ (.int .i64 0)).drew) w.heap.size _ _ from HSX.out
      generalize (((W.setCell ⟨w.heap.size, 0, none⟩ (.slice ao (all s).l.length cap)).setCell ⟨w.heap.size + 1, 0, none⟩ (.int .i64 (all s).used)).setCell ⟨w.heap.size + 1 + 1, 0, none⟩ (.int .i64 0)).drew = X at *
      refine ⟨by simp, .inl ⟨_, _, rfl, run_takeDeferred hK', ?_⟩⟩
      have hb3 := box3_kept hX (grownBy_putObj' _ D (.deferred none)) (fun r e => by cases e; exact ⟨_, hK', rfl⟩)
      have h0 := hb3.1.cell
      have h1 := hb3.2.1.cell
      have h2 := hb3.2.2.cell
      refine ⟨.tuple #[.slice ao (all s).l.length cap, .int .i64 (all s).used, .int .i64 0], ?_, _, by rw [hA.out], strs_kept hS (grownBy_putObj' _ D _) (fun r e => by cases e; exact ⟨_, hK', rfl⟩), hB'.trans (belowK_b (w := w1) (by omega) _ D _ _ hD hK' rfl rfl)⟩
      simp [results, Tryd.f14, go_sem, h0, h1, h2])
  case stop =>
    rintro D c pre W hD hpre ⟨⟨rfl, ps, x, rfl, hz, hx0, v, hb, hrow⟩, hB⟩ hK
    gi_wp2
    refine ⟨by simp, .inl ⟨_, _, rfl, run_takeDeferred hK, ?_⟩⟩
    have hb3 := box3_kept hb (grownBy_putObj' _ D (.deferred none)) (fun r e => by cases e; exact ⟨_, hK, rfl⟩)
    have h0 := hb3.1.cell
    have h1 := hb3.2.1.cell
    have h2 := hb3.2.2.cell
    obtain ⟨hu, hi⟩ := items_all s.length s (Nat.le_refl _)
    have key := stop_key s ps x hpre hx0
    rw [key.1, ← hu] at h1
    rw [key.2] at h2
    rw [key.1] at hrow
    refine ⟨.tuple #[v, .int .i64 (all s).used, .int .i64 (all s).err], ?_, _, rfl, strs_kept hrow (grownBy_putObj' _ D _) (fun r e => by cases e; exact ⟨_, hK, rfl⟩), hB.trans (belowK_b (w := w1) (by omega) _ D _ _ hD hK rfl rfl)⟩
    simp [results, Tryd.f14, go_sem, h0, h1, h2]
end Go.Proofs.YtgbieihobcindaaDoor
