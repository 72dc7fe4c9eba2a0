/- Texts of elder layers, one behind the other. -/
import Derived.Test.YtacgmadgkmcmoaaGreatDoorAa
import Derived.OrdersHeld
import Derived.StillTail
import Derived.RegionTactic
import Derived.Test.YtacgmadgkmcmoaaGreatDoorRows
import Derived.Laws.Rows
import Derived.BigQuiet
/- A region that asks the tape for its order, whose last operation writes a cell that the region reads: what is asked of the world (S) is asked only where something is still to come up. Nothing of the program. -/
namespace Go.Proofs.YtacgmadgkmcmoaaGreatDoor
open Go.RowKit
set_option linter.unusedVariables false

section
variable {P : Program} {ops : Array Oper} {Q : Exit → Act → World → Prop} {md : Region.Mode} {S : World → Prop}
/-- Whatever order is picked from here on; S holds wherever something is still to come up. -/
def wpTill (P : Program) (md : Region.Mode) (ops : Array Oper) (Q : Exit → Act → World → Prop) (S : World → Prop) : Nat → Array Bool → Act → World → Prop
  | 0, listed, a, w => Region.ready md ops listed = [] ∧ Q .normal a w
  | n + 1, listed, a, w =>
    (Region.ready md ops listed = [] → Q .normal a w) ∧ (Region.ready md ops listed ≠ [] → S w) ∧
      ∀ i, i ∈ Region.ready md ops listed → wpOp P ops Q i (fun a' w' => wpTill P md ops Q S n (listed.setIfInBounds i true) a' w') a w
theorem wpTill_any : ∀ (n : Nat) (listed : Array Bool) (a : Act) (w : World), wpTill P md ops Q S n listed a w → wpAny P md ops Q n listed a w
  | 0, _, _, _, h => h
  | n + 1, _, _, _, h => ⟨h.1, fun i hi => wpOp_mono (fun a' w' k => wpTill_any n _ a' w' k) (h.2.2 i hi)⟩
theorem wp_region_till {id : Nat} {a : Act} {w : World} (hm : P.follows .mixedOrders = true)
    (h : wpTill P .any ops Q S ops.size (Array.replicate ops.size false) a w.drew) : (Code.region id ops true).wp P Q a w :=
  wp_region_any hm (wpTill_any _ _ _ _ h)
theorem wpTill_done {n : Nat} {listed : Array Bool} {a : Act} {w : World} (hr : Region.ready md ops listed = []) (h : Q .normal a w) : wpTill P md ops Q S n listed a w := by
  cases n with
  | zero => exact ⟨hr, h⟩
  | succ n => exact ⟨fun _ => h, fun k => absurd hr k, fun i hi => by rw [hr] at hi; cases hi⟩
theorem wpTill_run {i n : Nat} {o : Oper} {listed : Array Bool} {a : Act} {w : World} (hr : Region.ready md ops listed = [i]) (ho : ops[i]? = some o) (hS : S w)
    (h : ∀ K' : Act → World → Prop, (∀ a' w', wpTill P md ops Q S n (listed.setIfInBounds i true) a' w' → K' a' w') → if Region.wanted o (yielded ops a.tmps) = true then Oper.wp P o a w K' Q else K' (a.put o.dst undef) w) :
    wpTill P md ops Q S (n + 1) listed a w :=
  ⟨fun k => (by rw [hr] at k; cases k), fun _ => hS, fun j hj => by
    rw [hr, List.mem_singleton] at hj
    subst hj
    exact wpOp_step ho h⟩
/-- Operations wait for earlier ones alone. -/
def orderedB (md : Region.Mode) (ops : Array Oper) : Bool :=
  (List.range ops.size).all fun j => match ops[j]? with
    | some o => o.after.all fun e => !Region.binds md e || decide (e.on < j)
    | none => true
theorem ordered_spec (h : orderedB md ops = true) {j : Nat} {o : Oper} (hj : ops[j]? = some o) {e : Edge} (he : e ∈ o.after) (hb : Region.binds md e = true) : e.on < j := by
  have hlt : j < ops.size := (Array.getElem?_eq_some_iff.1 hj).1
  have h1 := List.all_eq_true.1 h j (List.mem_range.2 hlt)
  simp only [hj] at h1
  have h2 := Array.all_eq_true_iff_forall_mem.1 h1 e he
  simpa [hb] using h2
/-- Where something has not come up, something may. -/
theorem ready_some (h : orderedB md ops = true) {listed : Array Bool} (hz : listed.size = ops.size) : ∀ (k : Nat), k < ops.size → listed.getD k true = false → Region.ready md ops listed ≠ [] := by
  intro k
  induction k using Nat.strongRecOn with
  | _ k ih =>
    intro hk hu
    obtain ⟨o, ho⟩ : ∃ o, ops[k]? = some o := ⟨_, Array.getElem?_eq_getElem hk⟩
    by_cases hall : ∀ e ∈ o.after, Region.binds md e = true → listed.getD e.on false = true
    · intro h0
      have : k ∈ Region.ready md ops listed := mem_ready.2 ⟨hu, o, ho, hall⟩
      rw [h0] at this
      cases this
    · obtain ⟨e, hne⟩ := Classical.not_forall.1 hall
      obtain ⟨he, hne⟩ := Classical.not_imp.1 hne
      obtain ⟨hb, hf⟩ := Classical.not_imp.1 hne
      have hlt := ordered_spec h ho he hb
      have h2 : listed.getD e.on false = false := by simpa using hf
      exact ih e.on hlt (by omega) (getD_in (by omega) h2)
/-- Operation number i may be taken now, and another one waits for it. -/
def takeB (md : Region.Mode) (ops : Array Oper) (listed : Array Bool) (i : Nat) : Bool :=
  Region.noSelect ops && orderedB md ops && decide (listed.size = ops.size) && (Region.free md ops listed i && (Region.ready md ops listed).contains i) &&
    (List.range ops.size).any fun k => Region.waitsFor md ops k i && !listed.getD k true
theorem waits_not_ready {k i : Nat} {listed : Array Bool} (hw : Region.waitsFor md ops k i = true) (hi : listed.getD i true = false) : k ∉ Region.ready md ops listed := fun hk => by
  obtain ⟨o, ho, e, he, hb, rfl⟩ := Region.waitsFor_spec hw
  obtain ⟨_, o', ho', hall⟩ := mem_ready.1 hk
  obtain rfl : o = o' := Option.some.inj (ho.symm.trans ho')
  have := hall e he hb
  rw [getD_both hi] at this
  cases this
theorem take_first {i k : Nat} {oi : Oper} {v : Value} (hi : ops[i]? = some oi) (hsel : Region.noSelect ops = true) (hord : orderedB md ops = true)
    (hQ : ∀ c a w, Q (.panic c) (a.put oi.dst v) w → Q (.panic c) a w) (hwk : Region.waitsFor md ops k i = true) (hki : k ≠ i) (hks : k < ops.size) :
    ∀ (n : Nat) (listed : Array Bool) (a : Act) (w : World), listed.size = ops.size → listed.getD k true = false →
      (∀ j oj, ops[j]? = some oj → j ≠ i → listed.getD j true = false → (∀ e ∈ oj.after, Region.binds md e = true → e.on ≠ i) → oi.apart ops oj = true) →
      i ∈ Region.ready md ops listed → YieldsIf P ops S oi v a → S w →
      wpTill P md ops Q S n (listed.setIfInBounds i true) (a.put oi.dst v) w → wpTill P md ops Q S (n + 1) listed a w
  | n, listed, a, w, hz, hku, hfree, hr, hy, hS, H => by
    have hiu := (mem_ready.1 hr).1
    refine ⟨fun h0 => (by rw [h0] at hr; cases hr), fun _ => hS, fun j hj => ?_⟩
    by_cases hji : j = i
    · subst hji
      exact hy.wpOp hi hS H
    · have hjr := ready_mono hj hji
      have hjk : j ≠ k := fun e => waits_not_ready hwk hiu (e ▸ hj)
      cases n with
      | zero => rw [H.1] at hjr; cases hjr
      | succ n =>
        obtain ⟨hju, oj, hoj, hall⟩ := mem_ready.1 hj
        have hap := hfree j oj hoj hji hju (fun e he hb heq => by
          have := hall e he hb
          rw [heq, getD_both hiu] at this
          cases this)
        have h2 := wpOp_putIf (S := S) hoj hap (fun cs b => Region.noSelect_spec hsel i oi cs b hi) (fun cs b => Region.noSelect_spec hsel j oj cs b hoj) hQ hy (H.2.2 j hjr)
        have hzj : (listed.setIfInBounds j true).size = ops.size := by simpa using hz
        have hkj : (listed.setIfInBounds j true).getD k true = false := by rw [getD_set_ne true hjk]; exact hku
        refine wpOp_mono (fun a' w' h3 => ?_) h2
        have h4 := h3.2
        rw [Array.setIfInBounds_comm _ _ (Ne.symm hji)] at h4
        have hkz : ((listed.setIfInBounds j true).setIfInBounds i true).getD k true = false := by rw [getD_set_ne true (Ne.symm hki)]; exact hkj
        have hsome := ready_some hord (listed := (listed.setIfInBounds j true).setIfInBounds i true) (by simpa using hz) k hks hkz
        have hS' : S w' := by
          cases n with
          | zero => exact absurd h4.1 hsome
          | succ n => exact h4.2.1 hsome
        refine take_first hi hsel hord hQ hwk hki hks n _ a' w' hzj hkj (fun l ol hl hli hlu hno => hfree l ol hl hli ?_ hno) (ready_mono hr (Ne.symm hji)) h3.1 hS' h4
        by_cases hjl : j = l
        · subst hjl; exact hju
        · rw [getD_set_ne true hjl] at hlu; exact hlu
theorem wpTill_take {i n : Nat} {oi : Oper} {v : Value} {listed : Array Bool} {a : Act} {w : World} (hi : ops[i]? = some oi) (hB : takeB md ops listed i = true)
    (hQ : ∀ c a w, Q (.panic c) (a.put oi.dst v) w → Q (.panic c) a w) (hy : YieldsIf P ops S oi v a) (hS : S w)
    (h : wpTill P md ops Q S n (listed.setIfInBounds i true) (a.put oi.dst v) w) : wpTill P md ops Q S (n + 1) listed a w := by
  simp only [takeB, Bool.and_eq_true, decide_eq_true_eq, List.any_eq_true, List.mem_range, Bool.not_eq_true'] at hB
  obtain ⟨⟨⟨⟨hsel, hord⟩, hz⟩, hf, hr⟩, k, hks, hwk, hku⟩ := hB
  have hr' : i ∈ Region.ready md ops listed := by simpa using hr
  have hki : k ≠ i := by
    rintro rfl
    obtain ⟨o, ho, e, he, hb, hon⟩ := Region.waitsFor_spec hwk
    have := ordered_spec hord ho he hb
    omega
  exact take_first hi hsel hord hQ hwk hki hks n listed a w hz hku (Region.free_spec hi hf) hr' hy hS h
end
end Go.Proofs.YtacgmadgkmcmoaaGreatDoor
/- package codec's Writer among other things of the call's own: what a write turns is the writer's block and its row, never a block of the set S. Conditions: as in the texts of layer 2. -/
namespace Go.Proofs.YtacgmadgkmcmoaaGreatDoor
open Go.RowKit
set_option linter.unusedVariables false

/-- The blocks of S are as they were. -/
structure Kept (S : Nat → Prop) (w w' : World) : Prop where
  os : w'.os = w.os
  tape : w'.tape = w.tape
  output : w'.output = w.output
  size : w.heap.size ≤ w'.heap.size
  block : ∀ k, S k → w'.heap[k]? = w.heap[k]?
theorem Kept.refl (S : Nat → Prop) (w : World) : Kept S w w := ⟨rfl, rfl, rfl, Nat.le_refl _, fun _ _ => rfl⟩
theorem Kept.trans {S : Nat → Prop} {a b c : World} (h : Kept S a b) (k : Kept S b c) : Kept S a c :=
  ⟨k.os.trans h.os, k.tape.trans h.tape, k.output.trans h.output, Nat.le_trans h.size k.size, fun i hi => (k.block i hi).trans (h.block i hi)⟩
theorem Kept.less {S T : Nat → Prop} {a b : World} (h : Kept S a b) (hs : ∀ k, T k → S k) : Kept T a b := ⟨h.os, h.tape, h.output, h.size, fun k hk => h.block k (hs k hk)⟩
theorem kept_grown {S : Nat → Prop} {r : Option Nat} {w w' : World} (h : w.grownBy w' r) (hs : ∀ k, S k → k < w.heap.size) (hr : ∀ k, S k → some k ≠ r) : Kept S w w' := ⟨h.os, h.tape, h.output, h.size, fun k hk => h.block k (hs k hk) (hr k hk)⟩
theorem kept_below {w w' : World} {B : Nat} (h : Kept (fun k => k < B) w w') : Below B w w' := ⟨h.os, h.tape, h.output, h.size, fun k hk => h.block k hk⟩
theorem grown_mk (w : World) (o : Obj) : w.grownBy (w.alloc o).drew none := ⟨rfl, rfl, rfl, by simp, fun k hk _ => Below.heap_alloc _ _ _ hk⟩
theorem grown_alloc (w : World) (o : Obj) : w.grownBy (w.alloc o) none := ⟨rfl, rfl, rfl, by simp, fun k hk _ => Below.heap_alloc _ _ _ hk⟩
/-- The writer's block g, and its row; neither is of S. -/
def Ws (w : World) (g : Nat) (S : Nat → Prop) (bs : List UInt8) : Prop :=
  ¬ S g ∧ (∀ k, S k → k < w.heap.size) ∧ ∃ ao cap, Cells w g 153 #[.slice ao bs.length cap] ∧ w.ownsRow (g + 1) 5 1 (.slice ao bs.length cap) bs.length (bvs bs) ∧ ∀ k, (Value.slice ao bs.length cap).ownBlock = some k → ¬ S k
def WsTo (w : World) (g : Nat) (S : Nat → Prop) (bs : List UInt8) (w' : World) : Prop := Ws w' g S bs ∧ Kept S w w'
theorem ws_to {w : World} {g : Nat} {S : Nat → Prop} {bs : List UInt8} (h : Ws w g S bs) : WsTo w g S bs w := ⟨h, Kept.refl _ _⟩
theorem wsTo_trans {w w1 w2 : World} {g : Nat} {S : Nat → Prop} {bs bs2 : List UInt8} (h : WsTo w g S bs w1) (k : WsTo w1 g S bs2 w2) : WsTo w g S bs2 w2 := ⟨k.1, h.2.trans k.2⟩
theorem ws_less {w : World} {g : Nat} {S T : Nat → Prop} {bs : List UInt8} (h : Ws w g S bs) (hs : ∀ k, T k → S k) : Ws w g T bs := by
  obtain ⟨h1, h2, ao, cap, hc, ho, hr⟩ := h
  exact ⟨fun k => h1 (hs _ k), fun k hk => h2 k (hs k hk), ao, cap, hc, ho, fun k e hk => hr k e (hs k hk)⟩
theorem ws_lt {w : World} {g : Nat} {S : Nat → Prop} {bs : List UInt8} (h : Ws w g S bs) : g < w.heap.size := by obtain ⟨_, _, _, _, hc, _⟩ := h; exact hc.lt
/-- New blocks may join S. -/
theorem ws_more {w w' : World} {g : Nat} {S T : Nat → Prop} {bs : List UInt8} (h : Ws w g S bs) (k : w.grownBy w' none) (hT : ∀ k, T k → S k ∨ (w.heap.size ≤ k ∧ k < w'.heap.size)) : Ws w' g T bs := by
  obtain ⟨h1, h2, ao, cap, hc, ho, hr⟩ := h
  refine ⟨fun hk => ?_, fun i hi => ?_, ao, cap, hc.grown k (by simp), ?_, fun i e hi => ?_⟩
  · have := hc.lt
    rcases hT _ hk with h3 | h3
    · exact h1 h3
    · omega
  · have := k.size
    rcases hT _ hi with h3 | h3
    · have := h2 i h3; omega
    · exact h3.2
  · exact ho.kept k (by
      rcases ho.2 with ⟨he, _⟩ | ⟨g', cap', cur, he, hg, _⟩
      · rw [he]; exact .inl rfl
      · rw [he]; exact .inr (by simp [Value.ownBlock]))
  · have := (ho.lt i e).2
    rcases hT _ hi with h3 | h3
    · exact hr i e h3
    · omega
theorem ws_new (w : World) (S : Nat → Prop) (hS : ∀ k, S k → k < w.heap.size) : Ws (w.alloc (.cells #[.slice none 0 0] 153)) w.heap.size S [] :=
  ⟨fun h => Nat.lt_irrefl _ (hS _ h), fun k hk => by have := hS k hk; simp; omega, none, 0, Cells.made w _ _, World.ownsRow_nil _ _ _ _, fun k e => by simp [Value.ownBlock] at e⟩
theorem ws_push {w wr W w1 : World} {g g' cap cap' : Nat} {S : Nat → Prop} {ao : Option Addr} {bb : List UInt8} {x : Int} {b : UInt8} (hb : Kept S w wr) (hSl : ∀ k, S k → k < wr.heap.size) (hSg : ¬ S g)
    (hSr : ∀ k, (Value.slice ao bb.length cap).ownBlock = some k → ¬ S k) (hW : wr.grownBy W none) (hc1 : Cells w1 g 153 #[.slice ao bb.length cap])
    (hgr : W.grownBy w1 (Value.slice ao bb.length cap).ownBlock) (hat : (Value.slice ao bb.length cap).ownBlock = some g' ∨ g' = W.heap.size)
    (hown1 : w1.ownsRow (g + 1) 5 1 (.slice (some ⟨g', 0, none⟩) (bb.length + 1) cap') (bb.length + 1) (bvs bb ++ [.int .u8 x])) (hx : x = (b.toNat : Int)) :
    WsTo w g S (bb ++ [b]) (w1.setCell ⟨g, 0, none⟩ (.slice (some ⟨g', 0, none⟩) (bb.length + 1) cap')) := by
  subst hx
  have k1 : Kept S wr w1 := by
    refine (kept_grown hW hSl (fun _ _ => by simp)).trans (kept_grown hgr (fun k hk => by have := hSl k hk; have := hW.size; omega) (fun k hk e => hSr k e.symm hk))
  refine ⟨⟨hSg, fun k hk => ?_, some ⟨g', 0, none⟩, cap', ?_, ?_, fun k e hk => ?_⟩, (hb.trans k1).trans ⟨rfl, rfl, rfl, by simp [World.setCell], fun k hk => Below.heap_setCell _ _ _ k (fun e => hSg (by simp at e; rwa [← e]))⟩⟩
  · have := hSl k hk; have := k1.size; simp [World.setCell]; omega
  · have := hc1.set 0 (.slice (some ⟨g', 0, none⟩) (bb.length + 1) cap')
    simpa using this
  · have := ownsRow_setCell_below hown1 (a := ⟨g, 0, none⟩) (by show g < g + 1; omega) (.slice (some ⟨g', 0, none⟩) (bb.length + 1) cap')
    simpa [bvs_append, bvs, bv] using this
  · have e' : g' = k := by simpa [Value.ownBlock] using e
    rcases hat with h | h
    · exact hSr g' h (e' ▸ hk)
    · have := hSl k hk; have := hW.size; omega
/-- What holds at the head of put's loop. -/
def PutS (w : World) (g : Nat) (S : Nat → Prop) (bs : List UInt8) (k n : Nat) (j : Value) (wr : World) : Prop :=
  ∃ i : Nat, i ≤ k ∧ j = .int .i64 i ∧ WsTo w g S (bs ++ le i n) wr

set_option maxHeartbeats 1000000 in
set_option maxRecDepth 20000 in
theorem put8s (g n : Nat) (S : Nat → Prop) (bs : List UInt8) (w : World) (h : Ws w g S bs) (hl : bs.length ≤ 1099511627776) (hn : n < 256) :
    Calls Tryz.prog 203 #[.pointer (some ⟨g, 0, none⟩), .int .u8 n] w fun E w' => E = .returned (.tuple #[]) ∧ WsTo w g S (bs ++ le 1 n) w' := by
  have HN := Lib.hid hn
  clear hn
  go_enter Tryz.func203, Tryz.ntmps203
  go_wp2_with fail
  refine (width8 _).mono ?_
  rintro E w' ⟨rfl, rfl⟩
  go_wp2
  go_loopw [4, 8] (fun _ j wr => PutS w g S bs 1 n j wr) (fun _ j _ => 1 - (intOf j).toNat)
  case atStart => exact ⟨0, by omega, rfl, by simpa [le] using h, Kept.refl _ _⟩
  case round =>
    obtain ⟨i, hi, rfl, hto⟩ := hrel
    by_cases hlt : i < 1
    · have hll : (bs ++ le i n).length = bs.length + i := by rw [List.length_append, le_length]
      have hln : (bs ++ le i n).length + 1 ≤ 1099511627800 := by omega
      have HB := Lib.hid (le_snoc i n)
      clear hll
      generalize hbb : bs ++ le i n = bb at *
      have HBB := Lib.hid hbb
      clear hbb
      obtain ⟨⟨hSg, hSl, ao, cap, hc, hown, hSr⟩, hb⟩ := hto
      have HS := Lib.hid hSr
      have HSl := Lib.hid hSl
      clear hSr hSl
      have c0 : wr.cell? ⟨g, 0, none⟩ = some (.slice ao bb.length cap) := by rw [hc.cell]; rfl
      have f0 := hc.frozen 0
      obtain ⟨i0, hi0, hz0, hz1, hz2⟩ := info_parts info_u8
      have HI0 := Lib.hid hi0
      have HZ0 := Lib.hid hz0
      have HZ1 := Lib.hid hz1
      have HZ2 := Lib.hid hz2
      clear hi0 hz0 hz1 hz2
      have hb1 : bb.length + 1 ≤ maxLen := by simp only [maxLen]; omega
      have hb2 : (bb.length + 1) * 1 ≤ 140737488355328 := by omega
      have hgl := hc.lt
      have hne : some g ≠ (Value.slice ao bb.length cap).ownBlock := fun e => by have := (hown.lt g e.symm).1; omega
      have HNE := Lib.hid hne
      clear hne
      have e1 : IntKind.i64.wrap (8 * (i : Int)) = 8 * (i : Int) := IntWalk.i64_in _ (by omega)
      have e2 : (8 * (i : Int)).toNat = 8 * i := by omega
      have e3 : (0 : Int) ≤ 8 * (i : Int) := by omega
      go_wp2
      go_region_law (refine step_append_lies _ rfl (.tmp 15) (.tmp 22) 71 rfl (g + 1) 5 i0 (.int .u8 0) 1 1 Tryz.underlying71 HI0.out HZ0.out HZ1.out HZ2.out rfl (by decide) _ _ _ (by simp [Act.eval]) (hown.alloc _) ⟨wr.heap.size, 0, none⟩ 1 1 [_] (by simp [Act.eval]) rfl (cell_one_new _ _ _) (by simp [Value.oneCell']) (by decide) hb1 hb2 (by simp; omega) _ rfl ?_; intro g' cap' w1 hown1 hgr hat hlt1; have hc1 := Cells.grown (hc.alloc _).drew hgr HNE.out; have c1 : w1.cell? ⟨g, 0, none⟩ = some (.slice ao bb.length cap) := (by rw [hc1.cell]; rfl); have f1 := hc1.frozen 0)
      all_goals
        have HG := Lib.hid hgr
        have HA := Lib.hid hat
        clear hgr hat e1 e2 e3
        go_wp2
        go_roundw
        case rel =>
          refine ⟨i + 1, by omega, by go_num, ?_⟩
          rw [HB.out, ← List.append_assoc, HBB.out]
          have hnn := HN.out
          exact ws_push hb HSl.out hSg HS.out (grown_mk _ _) hc1 HG.out HA.out hown1 (by first | exact byte_of' n i (by omega) | exact byte_of n i)
        case measure => simp [intOf]; omega
    · have hx : i = 1 := by omega
      have HX := Lib.hid hx
      clear hx
      go_wp2
      go_end0
      exact ⟨rfl, by rw [← HX.out]; exact hto⟩
theorem wsU8 (g n : Nat) (S : Nat → Prop) (bs : List UInt8) (w : World) (h : Ws w g S bs) (hl : bs.length ≤ 1099511627776) (hn : n < 256) :
    Calls Tryz.prog 183 #[.pointer (some ⟨g, 0, none⟩), .int .u8 n] w fun E w' => E = .returned (.tuple #[]) ∧ WsTo w g S (bs ++ le 1 n) w' := by
  have HN := Lib.hid hn
  clear hn
  go_enter Tryz.func183, Tryz.ntmps183
  go_wp2_with fail
  refine (put8s g n S bs _ h hl HN.out).mono ?_
  rintro E w' ⟨rfl, hw⟩
  go_wp2
  go_end0
  exact ⟨rfl, hw⟩


set_option maxHeartbeats 1000000 in
set_option maxRecDepth 20000 in
theorem put16s (g n : Nat) (S : Nat → Prop) (bs : List UInt8) (w : World) (h : Ws w g S bs) (hl : bs.length ≤ 1099511627776) (hn : n < 65536) :
    Calls Tryz.prog 178 #[.pointer (some ⟨g, 0, none⟩), .int .u16 n] w fun E w' => E = .returned (.tuple #[]) ∧ WsTo w g S (bs ++ le 2 n) w' := by
  have HN := Lib.hid hn
  clear hn
  go_enter Tryz.func178, Tryz.ntmps178
  go_wp2_with fail
  refine (width16 _).mono ?_
  rintro E w' ⟨rfl, rfl⟩
  go_wp2
  go_loopw [4, 8] (fun _ j wr => PutS w g S bs 2 n j wr) (fun _ j _ => 2 - (intOf j).toNat)
  case atStart => exact ⟨0, by omega, rfl, by simpa [le] using h, Kept.refl _ _⟩
  case round =>
    obtain ⟨i, hi, rfl, hto⟩ := hrel
    by_cases hlt : i < 2
    · have hll : (bs ++ le i n).length = bs.length + i := by rw [List.length_append, le_length]
      have hln : (bs ++ le i n).length + 1 ≤ 1099511627800 := by omega
      have HB := Lib.hid (le_snoc i n)
      clear hll
      generalize hbb : bs ++ le i n = bb at *
      have HBB := Lib.hid hbb
      clear hbb
      obtain ⟨⟨hSg, hSl, ao, cap, hc, hown, hSr⟩, hb⟩ := hto
      have HS := Lib.hid hSr
      have HSl := Lib.hid hSl
      clear hSr hSl
      have c0 : wr.cell? ⟨g, 0, none⟩ = some (.slice ao bb.length cap) := by rw [hc.cell]; rfl
      have f0 := hc.frozen 0
      obtain ⟨i0, hi0, hz0, hz1, hz2⟩ := info_parts info_u8
      have HI0 := Lib.hid hi0
      have HZ0 := Lib.hid hz0
      have HZ1 := Lib.hid hz1
      have HZ2 := Lib.hid hz2
      clear hi0 hz0 hz1 hz2
      have hb1 : bb.length + 1 ≤ maxLen := by simp only [maxLen]; omega
      have hb2 : (bb.length + 1) * 1 ≤ 140737488355328 := by omega
      have hgl := hc.lt
      have hne : some g ≠ (Value.slice ao bb.length cap).ownBlock := fun e => by have := (hown.lt g e.symm).1; omega
      have HNE := Lib.hid hne
      clear hne
      have e1 : IntKind.i64.wrap (8 * (i : Int)) = 8 * (i : Int) := IntWalk.i64_in _ (by omega)
      have e2 : (8 * (i : Int)).toNat = 8 * i := by omega
      have e3 : (0 : Int) ≤ 8 * (i : Int) := by omega
      go_wp2
      go_region_law (refine step_append_lies _ rfl (.tmp 15) (.tmp 22) 71 rfl (g + 1) 5 i0 (.int .u8 0) 1 1 Tryz.underlying71 HI0.out HZ0.out HZ1.out HZ2.out rfl (by decide) _ _ _ (by simp [Act.eval]) (hown.alloc _) ⟨wr.heap.size, 0, none⟩ 1 1 [_] (by simp [Act.eval]) rfl (cell_one_new _ _ _) (by simp [Value.oneCell']) (by decide) hb1 hb2 (by simp; omega) _ rfl ?_; intro g' cap' w1 hown1 hgr hat hlt1; have hc1 := Cells.grown (hc.alloc _).drew hgr HNE.out; have c1 : w1.cell? ⟨g, 0, none⟩ = some (.slice ao bb.length cap) := (by rw [hc1.cell]; rfl); have f1 := hc1.frozen 0)
      all_goals
        have HG := Lib.hid hgr
        have HA := Lib.hid hat
        clear hgr hat e1 e2 e3
        go_wp2
        go_roundw
        case rel =>
          refine ⟨i + 1, by omega, by go_num, ?_⟩
          rw [HB.out, ← List.append_assoc, HBB.out]
          have hnn := HN.out
          exact ws_push hb HSl.out hSg HS.out (grown_mk _ _) hc1 HG.out HA.out hown1 (by first | exact byte_of' n i (by omega) | exact byte_of n i)
        case measure => simp [intOf]; omega
    · have hx : i = 2 := by omega
      have HX := Lib.hid hx
      clear hx
      go_wp2
      go_end0
      exact ⟨rfl, by rw [← HX.out]; exact hto⟩
theorem wsU16 (g n : Nat) (S : Nat → Prop) (bs : List UInt8) (w : World) (h : Ws w g S bs) (hl : bs.length ≤ 1099511627776) (hn : n < 65536) :
    Calls Tryz.prog 141 #[.pointer (some ⟨g, 0, none⟩), .int .u16 n] w fun E w' => E = .returned (.tuple #[]) ∧ WsTo w g S (bs ++ le 2 n) w' := by
  have HN := Lib.hid hn
  clear hn
  go_enter Tryz.func141, Tryz.ntmps141
  go_wp2_with fail
  refine (put16s g n S bs _ h hl HN.out).mono ?_
  rintro E w' ⟨rfl, hw⟩
  go_wp2
  go_end0
  exact ⟨rfl, hw⟩


set_option maxHeartbeats 1000000 in
set_option maxRecDepth 20000 in
theorem put32s (g n : Nat) (S : Nat → Prop) (bs : List UInt8) (w : World) (h : Ws w g S bs) (hl : bs.length ≤ 1099511627776) (hn : n < 4294967296) :
    Calls Tryz.prog 179 #[.pointer (some ⟨g, 0, none⟩), .int .u32 n] w fun E w' => E = .returned (.tuple #[]) ∧ WsTo w g S (bs ++ le 4 n) w' := by
  have HN := Lib.hid hn
  clear hn
  go_enter Tryz.func179, Tryz.ntmps179
  go_wp2_with fail
  refine (width32 _).mono ?_
  rintro E w' ⟨rfl, rfl⟩
  go_wp2
  go_loopw [4, 8] (fun _ j wr => PutS w g S bs 4 n j wr) (fun _ j _ => 4 - (intOf j).toNat)
  case atStart => exact ⟨0, by omega, rfl, by simpa [le] using h, Kept.refl _ _⟩
  case round =>
    obtain ⟨i, hi, rfl, hto⟩ := hrel
    by_cases hlt : i < 4
    · have hll : (bs ++ le i n).length = bs.length + i := by rw [List.length_append, le_length]
      have hln : (bs ++ le i n).length + 1 ≤ 1099511627800 := by omega
      have HB := Lib.hid (le_snoc i n)
      clear hll
      generalize hbb : bs ++ le i n = bb at *
      have HBB := Lib.hid hbb
      clear hbb
      obtain ⟨⟨hSg, hSl, ao, cap, hc, hown, hSr⟩, hb⟩ := hto
      have HS := Lib.hid hSr
      have HSl := Lib.hid hSl
      clear hSr hSl
      have c0 : wr.cell? ⟨g, 0, none⟩ = some (.slice ao bb.length cap) := by rw [hc.cell]; rfl
      have f0 := hc.frozen 0
      obtain ⟨i0, hi0, hz0, hz1, hz2⟩ := info_parts info_u8
      have HI0 := Lib.hid hi0
      have HZ0 := Lib.hid hz0
      have HZ1 := Lib.hid hz1
      have HZ2 := Lib.hid hz2
      clear hi0 hz0 hz1 hz2
      have hb1 : bb.length + 1 ≤ maxLen := by simp only [maxLen]; omega
      have hb2 : (bb.length + 1) * 1 ≤ 140737488355328 := by omega
      have hgl := hc.lt
      have hne : some g ≠ (Value.slice ao bb.length cap).ownBlock := fun e => by have := (hown.lt g e.symm).1; omega
      have HNE := Lib.hid hne
      clear hne
      have e1 : IntKind.i64.wrap (8 * (i : Int)) = 8 * (i : Int) := IntWalk.i64_in _ (by omega)
      have e2 : (8 * (i : Int)).toNat = 8 * i := by omega
      have e3 : (0 : Int) ≤ 8 * (i : Int) := by omega
      go_wp2
      go_region_law (refine step_append_lies _ rfl (.tmp 15) (.tmp 22) 71 rfl (g + 1) 5 i0 (.int .u8 0) 1 1 Tryz.underlying71 HI0.out HZ0.out HZ1.out HZ2.out rfl (by decide) _ _ _ (by simp [Act.eval]) (hown.alloc _) ⟨wr.heap.size, 0, none⟩ 1 1 [_] (by simp [Act.eval]) rfl (cell_one_new _ _ _) (by simp [Value.oneCell']) (by decide) hb1 hb2 (by simp; omega) _ rfl ?_; intro g' cap' w1 hown1 hgr hat hlt1; have hc1 := Cells.grown (hc.alloc _).drew hgr HNE.out; have c1 : w1.cell? ⟨g, 0, none⟩ = some (.slice ao bb.length cap) := (by rw [hc1.cell]; rfl); have f1 := hc1.frozen 0)
      all_goals
        have HG := Lib.hid hgr
        have HA := Lib.hid hat
        clear hgr hat e1 e2 e3
        go_wp2
        go_roundw
        case rel =>
          refine ⟨i + 1, by omega, by go_num, ?_⟩
          rw [HB.out, ← List.append_assoc, HBB.out]
          have hnn := HN.out
          exact ws_push hb HSl.out hSg HS.out (grown_mk _ _) hc1 HG.out HA.out hown1 (by first | exact byte_of' n i (by omega) | exact byte_of n i)
        case measure => simp [intOf]; omega
    · have hx : i = 4 := by omega
      have HX := Lib.hid hx
      clear hx
      go_wp2
      go_end0
      exact ⟨rfl, by rw [← HX.out]; exact hto⟩
theorem wsU32 (g n : Nat) (S : Nat → Prop) (bs : List UInt8) (w : World) (h : Ws w g S bs) (hl : bs.length ≤ 1099511627776) (hn : n < 4294967296) :
    Calls Tryz.prog 142 #[.pointer (some ⟨g, 0, none⟩), .int .u32 n] w fun E w' => E = .returned (.tuple #[]) ∧ WsTo w g S (bs ++ le 4 n) w' := by
  have HN := Lib.hid hn
  clear hn
  go_enter Tryz.func142, Tryz.ntmps142
  go_wp2_with fail
  refine (put32s g n S bs _ h hl HN.out).mono ?_
  rintro E w' ⟨rfl, hw⟩
  go_wp2
  go_end0
  exact ⟨rfl, hw⟩


set_option maxHeartbeats 1000000 in
set_option maxRecDepth 20000 in
theorem put64s (g n : Nat) (S : Nat → Prop) (bs : List UInt8) (w : World) (h : Ws w g S bs) (hl : bs.length ≤ 1099511627776) (hn : n < 18446744073709551616) :
    Calls Tryz.prog 139 #[.pointer (some ⟨g, 0, none⟩), .int .u64 n] w fun E w' => E = .returned (.tuple #[]) ∧ WsTo w g S (bs ++ le 8 n) w' := by
  have HN := Lib.hid hn
  clear hn
  go_enter Tryz.func139, Tryz.ntmps139
  go_wp2_with fail
  refine (width64 _).mono ?_
  rintro E w' ⟨rfl, rfl⟩
  go_wp2
  go_loopw [4, 8] (fun _ j wr => PutS w g S bs 8 n j wr) (fun _ j _ => 8 - (intOf j).toNat)
  case atStart => exact ⟨0, by omega, rfl, by simpa [le] using h, Kept.refl _ _⟩
  case round =>
    obtain ⟨i, hi, rfl, hto⟩ := hrel
    by_cases hlt : i < 8
    · have hll : (bs ++ le i n).length = bs.length + i := by rw [List.length_append, le_length]
      have hln : (bs ++ le i n).length + 1 ≤ 1099511627800 := by omega
      have HB := Lib.hid (le_snoc i n)
      clear hll
      generalize hbb : bs ++ le i n = bb at *
      have HBB := Lib.hid hbb
      clear hbb
      obtain ⟨⟨hSg, hSl, ao, cap, hc, hown, hSr⟩, hb⟩ := hto
      have HS := Lib.hid hSr
      have HSl := Lib.hid hSl
      clear hSr hSl
      have c0 : wr.cell? ⟨g, 0, none⟩ = some (.slice ao bb.length cap) := by rw [hc.cell]; rfl
      have f0 := hc.frozen 0
      obtain ⟨i0, hi0, hz0, hz1, hz2⟩ := info_parts info_u8
      have HI0 := Lib.hid hi0
      have HZ0 := Lib.hid hz0
      have HZ1 := Lib.hid hz1
      have HZ2 := Lib.hid hz2
      clear hi0 hz0 hz1 hz2
      have hb1 : bb.length + 1 ≤ maxLen := by simp only [maxLen]; omega
      have hb2 : (bb.length + 1) * 1 ≤ 140737488355328 := by omega
      have hgl := hc.lt
      have hne : some g ≠ (Value.slice ao bb.length cap).ownBlock := fun e => by have := (hown.lt g e.symm).1; omega
      have HNE := Lib.hid hne
      clear hne
      have e1 : IntKind.i64.wrap (8 * (i : Int)) = 8 * (i : Int) := IntWalk.i64_in _ (by omega)
      have e2 : (8 * (i : Int)).toNat = 8 * i := by omega
      have e3 : (0 : Int) ≤ 8 * (i : Int) := by omega
      go_wp2
      go_region_law (refine step_append_lies _ rfl (.tmp 15) (.tmp 21) 71 rfl (g + 1) 5 i0 (.int .u8 0) 1 1 Tryz.underlying71 HI0.out HZ0.out HZ1.out HZ2.out rfl (by decide) _ _ _ (by simp [Act.eval]) (hown.alloc _) ⟨wr.heap.size, 0, none⟩ 1 1 [_] (by simp [Act.eval]) rfl (cell_one_new _ _ _) (by simp [Value.oneCell']) (by decide) hb1 hb2 (by simp; omega) _ rfl ?_; intro g' cap' w1 hown1 hgr hat hlt1; have hc1 := Cells.grown (hc.alloc _).drew hgr HNE.out; have c1 : w1.cell? ⟨g, 0, none⟩ = some (.slice ao bb.length cap) := (by rw [hc1.cell]; rfl); have f1 := hc1.frozen 0)
      all_goals
        have HG := Lib.hid hgr
        have HA := Lib.hid hat
        clear hgr hat e1 e2 e3
        go_wp2
        go_roundw
        case rel =>
          refine ⟨i + 1, by omega, by go_num, ?_⟩
          rw [HB.out, ← List.append_assoc, HBB.out]
          have hnn := HN.out
          exact ws_push hb HSl.out hSg HS.out (grown_mk _ _) hc1 HG.out HA.out hown1 (by first | exact byte_of' n i (by omega) | exact byte_of n i)
        case measure => simp [intOf]; omega
    · have hx : i = 8 := by omega
      have HX := Lib.hid hx
      clear hx
      go_wp2
      go_end0
      exact ⟨rfl, by rw [← HX.out]; exact hto⟩
theorem wsU64 (g n : Nat) (S : Nat → Prop) (bs : List UInt8) (w : World) (h : Ws w g S bs) (hl : bs.length ≤ 1099511627776) (hn : n < 18446744073709551616) :
    Calls Tryz.prog 91 #[.pointer (some ⟨g, 0, none⟩), .int .u64 n] w fun E w' => E = .returned (.tuple #[]) ∧ WsTo w g S (bs ++ le 8 n) w' := by
  have HN := Lib.hid hn
  clear hn
  go_enter Tryz.func91, Tryz.ntmps91
  go_wp2_with fail
  refine (put64s g n S bs _ h hl HN.out).mono ?_
  rintro E w' ⟨rfl, hw⟩
  go_wp2
  go_end0
  exact ⟨rfl, hw⟩

theorem wsI32 (g n : Nat) (S : Nat → Prop) (z : Int) (bs : List UInt8) (w : World) (h : Ws w g S bs) (hl : bs.length ≤ 1099511627776) (hn : n < 4294967296) (hz : IntKind.u32.wrap z = (n : Int)) :
    Calls Tryz.prog 182 #[.pointer (some ⟨g, 0, none⟩), .int .i32 z] w fun E w' => E = .returned (.tuple #[]) ∧ WsTo w g S (bs ++ le 4 n) w' := by
  have HN := Lib.hid hn
  clear hn
  go_enter Tryz.func182, Tryz.ntmps182
  go_wp2_with fail
  refine (put32s g n S bs _ h hl HN.out).mono ?_
  rintro E w' ⟨rfl, hw⟩
  go_wp2
  go_end0
  exact ⟨rfl, hw⟩

def VarS (w : World) (g : Nat) (S : Nat → Prop) (n : Nat) (bs : List UInt8) (v : Value) (wr : World) : Prop :=
  ∃ (m : Nat) (done : List UInt8), v = .int .u64 m ∧ VrAt n done m ∧ WsTo w g S (bs ++ done) wr

set_option maxHeartbeats 1000000 in
set_option maxRecDepth 20000 in
theorem wsVar (g n : Nat) (S : Nat → Prop) (bs : List UInt8) (w : World) (h : Ws w g S bs) (hl : bs.length ≤ 1099511627700) (hn : n < 18446744073709551616) :
    Calls Tryz.prog 145 #[.pointer (some ⟨g, 0, none⟩), .int .u64 n] w fun E w' => E = .returned (.tuple #[]) ∧ WsTo w g S (bs ++ vr n) w' := by
  have HN := Lib.hid hn
  clear hn
  go_enter Tryz.func145, Tryz.ntmps145
  go_wp2
  go_loopw [1] (fun v wr => VarS w g S n bs v wr) (fun v _ => (intOf v).toNat)
  case atStart => exact ⟨n, [], rfl, vrAt_start HN.out, by simpa using ws_to h⟩
  case round =>
    obtain ⟨m, done, rfl, hat, hto⟩ := hrel
    have hdl := vrAt_len hat
    have hln : (bs ++ done).length ≤ 1099511627776 := by rw [List.length_append]; omega
    have HLN := Lib.hid hln
    clear hln
    have hwr := hto.1
    by_cases hm : 128 ≤ m
    · obtain ⟨c, hc1, hc2, hc3⟩ := or_top m
      have HC := Lib.hid hc3
      clear hc3
      go_wp2_with fail
      refine (wsU8 g c S _ _ hwr HLN.out (by omega)).mono ?_
      rintro E w1 ⟨rfl, hw1⟩
      have HW := Lib.hid (wsTo_trans hto hw1)
      clear hw1
      go_wp2
      go_roundw
      case rel => exact ⟨m / 128, done ++ le 1 c, by go_num, vrAt_next hat hm HC.out, by rw [← List.append_assoc]; exact HW.out⟩
      case measure => simp [intOf]; omega
    · obtain ⟨c, hc⟩ : ∃ c : Nat, c = m := ⟨m, rfl⟩
      go_wp2_with fail
      refine (wsU8 g m S _ _ hwr HLN.out (by omega)).mono ?_
      rintro E w1 ⟨rfl, hw1⟩
      have HW := Lib.hid (wsTo_trans hto hw1)
      clear hw1 hc
      go_wp2
      go_end0
      refine ⟨rfl, ?_⟩
      rw [vrAt_last hat (by omega) rfl, ← List.append_assoc]
      exact HW.out

set_option maxRecDepth 100000 in
theorem wsBytes (g : Nat) (S : Nat → Prop) (bs : List UInt8) (w : World) (h : Ws w g S bs) :
    Calls Tryz.prog 94 #[.pointer (some ⟨g, 0, none⟩)] w fun E w' => E = .returned (.string (str bs)) ∧ w = w' := by
  obtain ⟨_, _, ao, cap, hc, hown, _⟩ := h
  have c0 : w.cell? ⟨g, 0, none⟩ = some (.slice ao bs.length cap) := by rw [hc.cell]; rfl
  have hcv : (convert 71 9 (.slice ao bs.length cap)).run Tryz.prog w = .ok (.string (str bs)) w := by
    rcases hown.2 with ⟨he, h0⟩ | ⟨g', cap', cur, he, _, hh, _⟩
    · have : bs = [] := List.eq_nil_of_length_eq_zero h0
      subst this
      injection he with e1 e2 e3
      subst e1 e3
      exact Lib.run_convert_nil_bytes w _ _ 5 0 Tryz.underlying71 Tryz.underlying5 Tryz.underlying9
    · injection he with e1 e2 e3
      subst e1 e3
      refine run_convert_bytes_back w _ _ 5 _ _ bs Tryz.underlying71 Tryz.underlying5 Tryz.underlying9 (fun j hj => ?_)
      exact hown.cells (g := g') rfl j _ (by simp [bvs, bv, List.getElem?_eq_getElem hj])
  go_enter Tryz.func94, Tryz.ntmps94
  go_wp2
  go_ret
  exact ⟨rfl, rfl⟩
end Go.Proofs.YtacgmadgkmcmoaaGreatDoor
/- Players, shots, states: their numbers, their bytes, and how bytes are read: the plain mathematics of layer 8. Nothing of the program. -/
namespace Go.Proofs.YtacgmadgkmcmoaaGreatDoor
open Go.RowKit
set_option linter.unusedVariables false

/-! Readers one behind the other. -/
def many {α : Type} (P : Nat → List UInt8 → Got α) : Nat → Nat → List UInt8 → Got (List α)
  | 0, _, l => ⟨0, [], l⟩
  | m + 1, i, l => ⟨fin (P i l).err (many P m (i + 1) (P i l).rest).err, (P i l).val :: (many P m (i + 1) (P i l).rest).val, (many P m (i + 1) (P i l).rest).rest⟩
theorem many_snoc {α : Type} (P : Nat → List UInt8 → Got α) : ∀ (m i : Nat) (l : List UInt8),
    many P (m + 1) i l = ⟨fin (many P m i l).err (P (i + m) (many P m i l).rest).err, (many P m i l).val ++ [(P (i + m) (many P m i l).rest).val], (P (i + m) (many P m i l).rest).rest⟩
  | 0, i, l => by simp [many, fin_of, fin_zero]
  | m + 1, i, l => by
    rw [many, many_snoc P m (i + 1) (P i l).rest]
    simp only [many, fin_fin, List.cons_append]
    rw [show i + 1 + m = i + (m + 1) from by omega]
theorem many_len {α : Type} (P : Nat → List UInt8 → Got α) : ∀ (m i : Nat) (l : List UInt8), (many P m i l).val.length = m
  | 0, _, _ => rfl
  | m + 1, i, l => by simp [many, many_len P m]

structure Good {α : Type} (P : List UInt8 → Got α) (e : α → List UInt8) (ok : α → Prop) : Prop where
  yes : ∀ a more, ok a → P (e a ++ more) = ⟨0, a, more⟩
  cut : ∀ a p s, ok a → e a = p ++ s → s ≠ [] → (P p).err = 10 ∧ (P p).rest = []
  one : ∀ l, (P l).err = 0 → l = e (P l).val ++ (P l).rest ∧ ok (P l).val
  bad : ∀ l, (P l).err ≠ 0 → (P l).rest = []
  len : ∀ l, (P l).rest.length ≤ l.length

theorem num_le (k n : Nat) (more : List UInt8) (hn : n < 256 ^ k) : num k (le k n ++ more) = ⟨0, n, more⟩ := by
  have h := le_length k n
  unfold num
  rw [if_pos (by simp [h])]
  rw [List.take_append_of_le_length (by omega), List.drop_append_of_le_length (by omega), List.take_of_length_le (by omega), List.drop_of_length_le (by omega), un_le, Nat.mod_eq_of_lt hn]
  rfl
theorem num_good (k : Nat) : Good (num k) (le k) (fun n => n < 256 ^ k) where
  yes := fun n more hn => num_le k n more hn
  cut := fun n p s hn he hs => by
    have h := le_length k n
    have h0 : 0 < s.length := List.length_pos_iff.2 hs
    rw [he, List.length_append] at h
    unfold num
    rw [if_neg (by omega)]
    exact ⟨rfl, rfl⟩
  one := fun l h => by
    unfold num at h ⊢
    by_cases hk : k ≤ l.length
    · rw [if_pos hk]
      have hl : (l.take k).length = k := by simp; omega
      refine ⟨?_, ?_⟩
      · show l = le k (un (l.take k)) ++ l.drop k
        have := le_un (l.take k)
        rw [hl] at this
        rw [this, List.take_append_drop]
      · have := un_lt (l.take k)
        rwa [hl] at this
    · rw [if_neg hk] at h; simp at h
  bad := fun l h => (num_err h).1
  len := num_len k
theorem vd_good : Good (vd 0) vr (fun n => n < 18446744073709551616) where
  yes := fun n more hn => vd_vr n more hn
  cut := fun n p s hn he hs => by
    have := vd_vrF_cut 9 0 n p s he hs (by omega)
    rw [this]; exact ⟨rfl, rfl⟩
  one := fun l h => vr_vd l h
  bad := fun l h => (vd_err h).1
  len := fun l => vd_len l 0
def okM {α : Type} (ok : Nat → α → Prop) : Nat → Nat → List α → Prop
  | 0, _, xs => xs = []
  | m + 1, i, xs => ∃ x r, xs = x :: r ∧ ok i x ∧ okM ok m (i + 1) r
def enM {α : Type} (e : Nat → α → List UInt8) : Nat → List α → List UInt8
  | _, [] => []
  | i, x :: r => e i x ++ enM e (i + 1) r
/-- A beginning of two texts lies within the first, or holds it. -/
theorem begin_two {a b p s : List UInt8} (h : a ++ b = p ++ s) : (∃ t, a = p ++ t ∧ t ≠ []) ∨ (∃ q, p = a ++ q ∧ b = q ++ s) := by
  rcases List.append_eq_append_iff.1 h with ⟨q, h1, h2⟩ | ⟨q, h1, h2⟩
  · exact .inr ⟨q, h1, h2⟩
  · by_cases hq : q = []
    · subst hq
      exact .inr ⟨[], by simpa using h1.symm, by simpa using h2.symm⟩
    · exact .inl ⟨q, h1, hq⟩
theorem fin_eq_zero {a b : Int} (h : fin a b = 0) : a = 0 ∧ b = 0 := by
  unfold fin at h
  split at h
  · exact ⟨by assumption, h⟩
  · exact absurd h (by assumption)
theorem fin_ten' (b : Int) : fin 10 b = 10 := rfl
theorem good_many {α : Type} {P : Nat → List UInt8 → Got α} {e : Nat → α → List UInt8} {ok : Nat → α → Prop} (h : ∀ i, Good (P i) (e i) (ok i)) : ∀ m i, Good (many P m i) (enM e i) (okM ok m i)
  | 0, i => ⟨fun a more ha => by cases ha; rfl, fun a p s ha he hs => by
      cases ha
      have := congrArg List.length he
      simp [enM] at this
      exact absurd (List.eq_nil_of_length_eq_zero (by omega)) hs, fun l _ => ⟨rfl, rfl⟩, fun l hb => absurd rfl hb, fun l => Nat.le_refl _⟩
  | m + 1, i => by
    have ih := good_many h m (i + 1)
    refine ⟨?_, ?_, ?_, ?_, ?_⟩
    · rintro a more ⟨x, r, rfl, hx, hr⟩
      simp only [many, enM, List.append_assoc, (h i).yes x _ hx, ih.yes r more hr]
      rfl
    · rintro a p s ⟨x, r, rfl, hx, hr⟩ he hs
      simp only [enM] at he
      rcases begin_two he with ⟨t, h1, h2⟩ | ⟨q, rfl, h2⟩
      · obtain ⟨e1, e2⟩ := (h i).cut x p t hx h1 h2
        refine ⟨by simp only [many, e1]; rfl, ?_⟩
        simp only [many, e2]
        have := ih.len []
        exact List.eq_nil_of_length_eq_zero (by simpa using this)
      · obtain ⟨e1, e2⟩ := ih.cut r q s hr h2 hs
        simp only [many, (h i).yes x q hx, e1, e2, fin_of]
        exact ⟨trivial, trivial⟩
    · intro l hl
      obtain ⟨h1, h2⟩ := fin_eq_zero (show fin (P i l).err (many P m (i + 1) (P i l).rest).err = 0 from hl)
      obtain ⟨a1, a2⟩ := (h i).one l h1
      obtain ⟨b1, b2⟩ := ih.one _ h2
      refine ⟨?_, _, _, rfl, a2, b2⟩
      show l = (e i (P i l).val ++ enM e (i + 1) (many P m (i + 1) (P i l).rest).val) ++ (many P m (i + 1) (P i l).rest).rest
      rw [List.append_assoc, ← b1, ← a1]
    · intro l hl
      show (many P m (i + 1) (P i l).rest).rest = []
      by_cases h1 : (P i l).err = 0
      · refine ih.bad _ fun h2 => hl ?_
        show fin _ _ = 0
        rw [h1, h2]; rfl
      · rw [(h i).bad l h1]
        have := ih.len []
        exact List.eq_nil_of_length_eq_zero (by simpa using this)
    · intro l
      exact Nat.le_trans (ih.len _) ((h i).len l)
def seq {α β : Type} (P : List UInt8 → Got α) (Q : α → List UInt8 → Got β) (l : List UInt8) : Got (α × β) :=
  ⟨fin (P l).err (Q (P l).val (P l).rest).err, ((P l).val, (Q (P l).val (P l).rest).val), (Q (P l).val (P l).rest).rest⟩
theorem good_seq {α β : Type} {P : List UInt8 → Got α} {Q : α → List UInt8 → Got β} {e : α → List UInt8} {f : α → β → List UInt8} {ok : α → Prop} {oq : α → β → Prop}
    (h : Good P e ok) (k : ∀ a, Good (Q a) (f a) (oq a)) : Good (seq P Q) (fun x => e x.1 ++ f x.1 x.2) (fun x => ok x.1 ∧ oq x.1 x.2) := by
  refine ⟨?_, ?_, ?_, ?_, ?_⟩
  · rintro ⟨a, b⟩ more ⟨ha, hb⟩
    simp only [seq, List.append_assoc, h.yes a _ ha, (k a).yes b more hb]
    rfl
  · rintro ⟨a, b⟩ p s ⟨ha, hb⟩ he hs
    rcases begin_two he with ⟨t, h1, h2⟩ | ⟨q, rfl, h2⟩
    · obtain ⟨e1, e2⟩ := h.cut a p t ha h1 h2
      refine ⟨by simp only [seq, e1]; rfl, ?_⟩
      simp only [seq, e2]
      have := (k (P p).val).len []
      exact List.eq_nil_of_length_eq_zero (by simpa using this)
    · obtain ⟨e1, e2⟩ := (k a).cut b q s hb h2 hs
      simp only [seq, h.yes a q ha, e1, e2, fin_of]
      exact ⟨trivial, trivial⟩
  · intro l hl
    obtain ⟨h1, h2⟩ := fin_eq_zero (show fin (P l).err (Q (P l).val (P l).rest).err = 0 from hl)
    obtain ⟨a1, a2⟩ := h.one l h1
    obtain ⟨b1, b2⟩ := (k (P l).val).one _ h2
    refine ⟨?_, a2, b2⟩
    show l = (e (P l).val ++ f (P l).val (Q (P l).val (P l).rest).val) ++ (Q (P l).val (P l).rest).rest
    rw [List.append_assoc, ← b1, ← a1]
  · intro l hl
    show (Q (P l).val (P l).rest).rest = []
    by_cases h1 : (P l).err = 0
    · refine (k _).bad _ fun h2 => hl ?_
      show fin _ _ = 0
      rw [h1, h2]; rfl
    · rw [h.bad l h1]
      have := (k (P l).val).len []
      exact List.eq_nil_of_length_eq_zero (by simpa using this)
  · intro l
    exact Nat.le_trans ((k _).len _) (h.len l)
end Go.Proofs.YtacgmadgkmcmoaaGreatDoor
/- Players, shots, states: what may be, the bytes of a state, and the state of bytes: plain. Nothing of the program. -/
namespace Go.Proofs.YtacgmadgkmcmoaaGreatDoor
open Go.RowKit
set_option linter.unusedVariables false

structure Pl where
  x : Int
  y : Int
  vx : Int
  vy : Int
  h : Nat
  c : Nat
  f : Nat
structure Sh where
  x : Int
  y : Int
  vx : Int
  vy : Int
  o : Nat
  l : Nat
structure St where
  fr : Nat
  sd : Nat
  p : Pl
  q : Pl
  ss : List Sh
  s0 : Nat
  s1 : Nat
theorem pl_eq (a b : Pl) : a = b ↔ a.x = b.x ∧ a.y = b.y ∧ a.vx = b.vx ∧ a.vy = b.vy ∧ a.h = b.h ∧ a.c = b.c ∧ a.f = b.f := by cases a; cases b; simp
theorem sh_eq (a b : Sh) : a = b ↔ a.x = b.x ∧ a.y = b.y ∧ a.vx = b.vx ∧ a.vy = b.vy ∧ a.o = b.o ∧ a.l = b.l := by cases a; cases b; simp
theorem st_eq (a b : St) : a = b ↔ a.fr = b.fr ∧ a.sd = b.sd ∧ a.p = b.p ∧ a.q = b.q ∧ a.ss = b.ss ∧ a.s0 = b.s0 ∧ a.s1 = b.s1 := by cases a; cases b; simp
instance decPl (a b : Pl) : Decidable (a = b) := decidable_of_iff _ (pl_eq a b).symm
instance decSh (a b : Sh) : Decidable (a = b) := decidable_of_iff _ (sh_eq a b).symm
instance decSt (a b : St) : Decidable (a = b) := decidable_of_iff _ (st_eq a b).symm
def same (a b : St) : Bool := decide (a = b)

def i32 (z : Int) : Prop := -2147483648 ≤ z ∧ z ≤ 2147483647
def Pl.fit (p : Pl) : Prop := i32 p.x ∧ i32 p.y ∧ i32 p.vx ∧ i32 p.vy ∧ p.h < 256 ∧ p.c < 256 ∧ p.f < 256
def Sh.fit (s : Sh) : Prop := i32 s.x ∧ i32 s.y ∧ i32 s.vx ∧ i32 s.vy ∧ s.o < 256 ∧ s.l < 256
def St.fit (s : St) : Prop := s.fr < 18446744073709551616 ∧ s.sd < 18446744073709551616 ∧ s.p.fit ∧ s.q.fit ∧ (∀ x ∈ s.ss, x.fit) ∧ s.s0 < 65536 ∧ s.s1 < 65536
def Pl.nums (p : Pl) : List Int := [p.x, p.y, p.vx, p.vy, p.h, p.c, p.f]
def Sh.nums (s : Sh) : List Int := [s.x, s.y, s.vx, s.vy, s.o, s.l]
/-- The bounds, in the order of the table. -/
def bds : List (Int × Int) := [(0, 61440), (0, 28672), (-1024, 1024), (-1024, 1024), (1, 100), (0, 30), (0, 3), (0, 65024), (0, 32256), (-2048, 2048), (-2048, 2048), (0, 1), (1, 40)]
def lo (i : Nat) : Int := (bds.getD i (0, 0)).1
def hi (i : Nat) : Int := (bds.getD i (0, 0)).2
def okA (i : Nat) (n : Int) : Bool := decide (lo i ≤ n ∧ n ≤ hi i)
def okF : Nat → List Int → Bool
  | _, [] => true
  | i, n :: r => okA i n && okF (i + 1) r
theorem okF_snoc : ∀ (l : List Int) (i : Nat) (n : Int), okF i (l ++ [n]) = (okF i l && okA (i + l.length) n)
  | [], i, n => by simp [okF]
  | a :: l, i, n => by
    simp only [List.cons_append, okF, okF_snoc l (i + 1) n, List.length_cons, Bool.and_assoc]
    rw [show i + 1 + l.length = i + (l.length + 1) from by omega]
def Pl.good (p : Pl) : Bool := okF 0 p.nums
def Sh.good (s : Sh) : Bool := okF 7 s.nums
def St.good (s : St) : Bool := decide (s.ss.length ≤ 8) && (s.p.good && s.q.good) && s.ss.all Sh.good

/-! Bytes. -/
def un32 (z : Int) : Nat := (z % 4294967296).toNat
theorem un32_lt (z : Int) : un32 z < 4294967296 := by unfold un32; omega
theorem wrap_un32 {z : Int} (h : i32 z) : wrap32 (un32 z : Int) = z := by
  obtain ⟨h1, h2⟩ := h
  unfold un32 wrap32
  omega
theorem un32_wrap {n : Nat} (h : n < 4294967296) : un32 (wrap32 (n : Int)) = n := by
  unfold un32 wrap32
  omega
theorem wrap32_fit (z : Int) : i32 (wrap32 z) := by unfold i32 wrap32; omega
def wd (i : Nat) : Nat := if i < 4 then 4 else 1
def Pl.raw (p : Pl) : List Nat := [un32 p.x, un32 p.y, un32 p.vx, un32 p.vy, p.h, p.c, p.f]
def Sh.raw (s : Sh) : List Nat := [un32 s.x, un32 s.y, un32 s.vx, un32 s.vy, s.o, s.l]
def mkP (v : List Nat) : Pl := ⟨wrap32 (v.getD 0 0), wrap32 (v.getD 1 0), wrap32 (v.getD 2 0), wrap32 (v.getD 3 0), v.getD 4 0, v.getD 5 0, v.getD 6 0⟩
def mkH (v : List Nat) : Sh := ⟨wrap32 (v.getD 0 0), wrap32 (v.getD 1 0), wrap32 (v.getD 2 0), wrap32 (v.getD 3 0), v.getD 4 0, v.getD 5 0⟩
abbrev okN (i : Nat) (n : Nat) : Prop := n < 256 ^ wd i
theorem mkP_raw {p : Pl} (h : p.fit) : mkP p.raw = p := by
  obtain ⟨h1, h2, h3, h4, _⟩ := h
  cases p
  simp_all [mkP, Pl.raw, wrap_un32]
theorem mkH_raw {s : Sh} (h : s.fit) : mkH s.raw = s := by
  obtain ⟨h1, h2, h3, h4, _⟩ := h
  cases s
  simp_all [mkH, Sh.raw, wrap_un32]
theorem raw_okP {p : Pl} (h : p.fit) : okM okN 7 0 p.raw := by
  obtain ⟨_, _, _, _, h5, h6, h7⟩ := h
  exact ⟨_, _, rfl, un32_lt _, _, _, rfl, un32_lt _, _, _, rfl, un32_lt _, _, _, rfl, un32_lt _, _, _, rfl, h5, _, _, rfl, h6, _, _, rfl, h7, rfl⟩
theorem raw_okH {s : Sh} (h : s.fit) : okM okN 6 0 s.raw := by
  obtain ⟨_, _, _, _, h5, h6⟩ := h
  exact ⟨_, _, rfl, un32_lt _, _, _, rfl, un32_lt _, _, _, rfl, un32_lt _, _, _, rfl, un32_lt _, _, _, rfl, h5, _, _, rfl, h6, rfl⟩
theorem raw_mkP {v : List Nat} (h : okM okN 7 0 v) : (mkP v).raw = v ∧ (mkP v).fit := by
  obtain ⟨a0, r, rfl, h0, a1, r, rfl, h1, a2, r, rfl, h2, a3, r, rfl, h3, a4, r, rfl, h4, a5, r, rfl, h5, a6, r, rfl, h6, rfl⟩ := h
  exact ⟨by simp [mkP, Pl.raw, un32_wrap h0, un32_wrap h1, un32_wrap h2, un32_wrap h3], wrap32_fit _, wrap32_fit _, wrap32_fit _, wrap32_fit _, h4, h5, h6⟩
theorem raw_mkH {v : List Nat} (h : okM okN 6 0 v) : (mkH v).raw = v ∧ (mkH v).fit := by
  obtain ⟨a0, r, rfl, h0, a1, r, rfl, h1, a2, r, rfl, h2, a3, r, rfl, h3, a4, r, rfl, h4, a5, r, rfl, h5, rfl⟩ := h
  exact ⟨by simp [mkH, Sh.raw, un32_wrap h0, un32_wrap h1, un32_wrap h2, un32_wrap h3], wrap32_fit _, wrap32_fit _, wrap32_fit _, wrap32_fit _, h4, h5⟩
abbrev eN (i : Nat) (n : Nat) : List UInt8 := le (wd i) n
theorem enM_snoc {α : Type} (e : Nat → α → List UInt8) : ∀ (l : List α) (i : Nat) (x : α), enM e i (l ++ [x]) = enM e i l ++ e (i + l.length) x
  | [], i, x => by simp [enM]
  | a :: l, i, x => by
    simp only [List.cons_append, enM, enM_snoc e l (i + 1) x, List.length_cons, List.append_assoc]
    rw [show i + 1 + l.length = i + (l.length + 1) from by omega]
def pe (p : Pl) : List UInt8 := enM eN 0 p.raw
def he (s : Sh) : List UInt8 := enM eN 0 s.raw
theorem pe_len (p : Pl) : (pe p).length = 19 := by simp [pe, Pl.raw, enM, eN, wd, le_length]
theorem he_len (s : Sh) : (he s).length = 18 := by simp [he, Sh.raw, enM, eN, wd, le_length]
def hes (l : List Sh) : List UInt8 := l.flatMap he
theorem hes_len : ∀ (l : List Sh), (hes l).length = 18 * l.length
  | [] => rfl
  | a :: l => by
    have := hes_len l
    simp only [hes, List.flatMap_cons, List.length_append, he_len, List.length_cons] at this ⊢
    omega
theorem hes_snoc (l : List Sh) (s : Sh) : hes (l ++ [s]) = hes l ++ he s := by simp [hes]
def ste (s : St) : List UInt8 := le 8 s.fr ++ le 8 s.sd ++ (pe s.p ++ pe s.q) ++ vr s.ss.length ++ hes s.ss ++ le 2 s.s0 ++ le 2 s.s1

abbrev pR : List UInt8 → Got (List Nat) := many (fun i => num (wd i)) 7 0
abbrev hR : List UInt8 → Got (List Nat) := many (fun i => num (wd i)) 6 0
def rawR : List UInt8 → Got (List Nat × (List (List Nat) × (Nat × (List (List Nat) × List Nat)))) :=
  seq (many (fun _ => num 8) 2 0) fun _ => seq (many (fun _ => pR) 2 0) fun _ => seq (vd 0) fun n => seq (many (fun _ => hR) n 0) fun _ => many (fun _ => num 2) 2 0
def mkS (x : List Nat × (List (List Nat) × (Nat × (List (List Nat) × List Nat)))) : St :=
  ⟨x.1.getD 0 0, x.1.getD 1 0, mkP (x.2.1.getD 0 []), mkP (x.2.1.getD 1 []), x.2.2.2.1.map mkH, x.2.2.2.2.getD 0 0, x.2.2.2.2.getD 1 0⟩
def rawS (s : St) : List Nat × (List (List Nat) × (Nat × (List (List Nat) × List Nat))) := ([s.fr, s.sd], [s.p.raw, s.q.raw], s.ss.length, s.ss.map Sh.raw, [s.s0, s.s1])
theorem good_p : Good pR (enM eN 0) (okM okN 7 0) := good_many (fun i => num_good (wd i)) 7 0
theorem good_h : Good hR (enM eN 0) (okM okN 6 0) := good_many (fun i => num_good (wd i)) 6 0
theorem good_raw : Good rawR (fun x => enM (fun _ => le 8) 0 x.1 ++ (enM (fun _ => enM eN 0) 0 x.2.1 ++ (vr x.2.2.1 ++ (enM (fun _ => enM eN 0) 0 x.2.2.2.1 ++ enM (fun _ => le 2) 0 x.2.2.2.2))))
    (fun x => okM (fun _ n => n < 256 ^ 8) 2 0 x.1 ∧ (okM (fun _ => okM okN 7 0) 2 0 x.2.1 ∧ (x.2.2.1 < 18446744073709551616 ∧ (okM (fun _ => okM okN 6 0) x.2.2.1 0 x.2.2.2.1 ∧ okM (fun _ n => n < 256 ^ 2) 2 0 x.2.2.2.2)))) :=
  good_seq (good_many (fun _ => num_good 8) 2 0) fun _ => good_seq (good_many (fun _ => good_p) 2 0) fun _ => good_seq vd_good fun n =>
    good_seq (good_many (fun _ => good_h) n 0) fun _ => good_many (fun _ => num_good 2) 2 0
theorem hes_raw : ∀ (l : List Sh) (i : Nat), enM (fun _ => enM eN 0) i (l.map Sh.raw) = hes l
  | [], _ => rfl
  | a :: l, i => by simp only [List.map_cons, enM, hes_raw l (i + 1)]; rfl
theorem ste_raw (s : St) : enM (fun _ => le 8) 0 (rawS s).1 ++ (enM (fun _ => enM eN 0) 0 (rawS s).2.1 ++ (vr (rawS s).2.2.1 ++ (enM (fun _ => enM eN 0) 0 (rawS s).2.2.2.1 ++ enM (fun _ => le 2) 0 (rawS s).2.2.2.2))) = ste s := by
  simp only [rawS, hes_raw, ste, enM, pe, List.append_nil, List.append_assoc]
theorem oks_raw : ∀ (l : List Sh) (i : Nat), (∀ x ∈ l, x.fit) → okM (fun _ => okM okN 6 0) l.length i (l.map Sh.raw)
  | [], _, _ => rfl
  | a :: l, i, h => ⟨_, _, rfl, raw_okH (h a (by simp)), oks_raw l (i + 1) (fun x hx => h x (by simp [hx]))⟩
theorem raw_ok {s : St} (h : s.fit) (hn : s.ss.length < 18446744073709551616) : okM (fun _ n => n < 256 ^ 8) 2 0 (rawS s).1 ∧ (okM (fun _ => okM okN 7 0) 2 0 (rawS s).2.1 ∧ ((rawS s).2.2.1 < 18446744073709551616 ∧ (okM (fun _ => okM okN 6 0) (rawS s).2.2.1 0 (rawS s).2.2.2.1 ∧ okM (fun _ n => n < 256 ^ 2) 2 0 (rawS s).2.2.2.2))) := by
  obtain ⟨h1, h2, h3, h4, h5, h6, h7⟩ := h
  exact ⟨⟨_, _, rfl, h1, _, _, rfl, h2, rfl⟩, ⟨_, _, rfl, raw_okP h3, _, _, rfl, raw_okP h4, rfl⟩, hn, oks_raw _ _ h5, ⟨_, _, rfl, h6, _, _, rfl, h7, rfl⟩⟩
theorem maps_raw : ∀ (l : List Sh), (∀ x ∈ l, x.fit) → (l.map Sh.raw).map mkH = l
  | [], _ => rfl
  | a :: l, h => by
    simp only [List.map_cons, mkH_raw (h a (by simp)), maps_raw l (fun x hx => h x (by simp [hx]))]
theorem mkS_rawS {s : St} (h : s.fit) : mkS (rawS s) = s := by
  obtain ⟨_, _, h3, h4, h5, _⟩ := h
  have e := maps_raw s.ss h5
  rw [st_eq]
  simp only [mkS, rawS, List.getD_cons_zero, List.getD_cons_succ, mkP_raw h3, mkP_raw h4, e, and_self]
theorem raws_maps : ∀ (v : List (List Nat)) (n i : Nat), okM (fun _ => okM okN 6 0) n i v → (v.map mkH).map Sh.raw = v ∧ v.length = n ∧ ∀ x ∈ v.map mkH, x.fit
  | v, 0, i, h => by cases h; simp
  | v, n + 1, i, h => by
    obtain ⟨x, r, rfl, hx, hr⟩ := h
    obtain ⟨e1, e2, e3⟩ := raws_maps r n (i + 1) hr
    obtain ⟨k1, k2⟩ := raw_mkH hx
    refine ⟨by simp only [List.map_cons, k1, e1], by simp [e2], fun y hy => ?_⟩
    simp only [List.map_cons, List.mem_cons] at hy
    rcases hy with rfl | hy
    · exact k2
    · exact e3 y hy

def St.zero : St := ⟨0, 0, ⟨0, 0, 0, 0, 0, 0, 0⟩, ⟨0, 0, 0, 0, 0, 0, 0⟩, [], 0, 0⟩
/-- What Take answers: the error (0: none), the state. -/
def tst (l : List UInt8) : Int × St :=
  if 8 < (rawR l).val.2.2.1 then (4, .zero)
  else if (rawR l).err ≠ 0 then ((rawR l).err, .zero)
  else if (rawR l).rest ≠ [] ∨ (mkS (rawR l).val).good = false then (4, .zero)
  else (0, mkS (rawR l).val)
theorem good_few {s : St} (h : s.good = true) : s.ss.length ≤ 8 := by
  unfold St.good at h
  simp only [Bool.and_eq_true, decide_eq_true_eq] at h
  exact h.1.1
theorem raw_back {s : St} (h : s.fit) (hg : s.good = true) (more : List UInt8) : rawR (ste s ++ more) = ⟨0, rawS s, more⟩ := by
  have := good_few hg
  rw [← ste_raw]
  exact good_raw.yes (rawS s) more (raw_ok h (by omega))
theorem tst_back {s : St} (h : s.fit) (hg : s.good = true) : tst (ste s) = (0, s) := by
  have e := raw_back h hg []
  rw [List.append_nil] at e
  unfold tst
  rw [e]
  rw [if_neg (by show ¬ 8 < s.ss.length; have := good_few hg; omega), if_neg (by simp), if_neg (by simp [mkS_rawS h, hg]), mkS_rawS h]
theorem tst_more {s : St} (h : s.fit) (hg : s.good = true) (b : UInt8) : tst (ste s ++ [b]) = (4, .zero) := by
  unfold tst
  rw [raw_back h hg]
  rw [if_neg (by show ¬ 8 < s.ss.length; have := good_few hg; omega), if_neg (by simp), if_pos (by simp)]
theorem rawS_mkS {x : List Nat × (List (List Nat) × (Nat × (List (List Nat) × List Nat)))} (h1 : okM (fun _ n => n < 256 ^ 8) 2 0 x.1) (h2 : okM (fun _ => okM okN 7 0) 2 0 x.2.1)
    (h4 : okM (fun _ => okM okN 6 0) x.2.2.1 0 x.2.2.2.1) (h5 : okM (fun _ n => n < 256 ^ 2) 2 0 x.2.2.2.2) : (mkS x).fit ∧ rawS (mkS x) = x := by
  obtain ⟨a, b, n, c, d⟩ := x
  dsimp only at h1 h2 h4 h5
  obtain ⟨m1, m2, m3⟩ := raws_maps c n 0 h4
  obtain ⟨a0, ra, rfl, ha0, a1, rb, rfl, ha1, rfl⟩ := h1
  obtain ⟨b0, rb0, rfl, hb0, b1, rb1, rfl, hb1, rfl⟩ := h2
  obtain ⟨d0, rd0, rfl, hd0, d1, rd1, rfl, hd1, rfl⟩ := h5
  have hl : (c.map mkH).length = n := by rw [List.length_map, m2]
  obtain ⟨e0, f0⟩ := raw_mkP hb0
  obtain ⟨e1, f1⟩ := raw_mkP hb1
  clear h4 hb0 hb1
  simp only [mkS, rawS, List.getD_cons_zero, List.getD_cons_succ, e0, e1, m1, hl, and_true]
  exact ⟨by simpa using ha0, by simpa using ha1, f0, f1, m3, by simpa using hd0, by simpa using hd1⟩
theorem tst_one {l : List UInt8} (h : (tst l).1 = 0) : (tst l).2.good = true ∧ (tst l).2.fit ∧ ste (tst l).2 = l := by
  have hone := good_raw.one l
  unfold tst at h ⊢
  generalize rawR l = R at *
  by_cases h1 : 8 < R.val.2.2.1
  · rw [if_pos h1] at h; simp at h
  · rw [if_neg h1] at h ⊢
    by_cases h2 : R.err = 0
    · rw [if_neg (by simp [h2])] at h ⊢
      by_cases h3 : R.rest ≠ [] ∨ (mkS R.val).good = false
      · rw [if_pos h3] at h; simp at h
      · rw [if_neg h3]
        have h4 : R.rest = [] := by
          rcases hr : R.rest with _ | ⟨b, r⟩
          · rfl
          · exact absurd (.inl (by rw [hr]; simp)) h3
        have h5 : (mkS R.val).good = true := by
          cases hg : (mkS R.val).good
          · exact absurd (.inr hg) h3
          · rfl
        obtain ⟨e1, k1, k2, k3, k4, k5⟩ := hone h2
        rw [h4, List.append_nil] at e1
        obtain ⟨f1, f2⟩ := rawS_mkS k1 k2 k4 k5
        refine ⟨h5, f1, ?_⟩
        show ste (mkS R.val) = l
        rw [← ste_raw, f2]
        exact e1.symm
    · rw [if_pos h2] at h; exact absurd h h2
theorem tst_bad {l : List UInt8} (h : (tst l).1 ≠ 0) : (tst l).2 = .zero := by
  unfold tst at h ⊢
  (repeat' split) <;> simp_all
theorem ste_inj {s t : St} (hs : s.fit) (ht : t.fit) (gs : s.good = true) (gt : t.good = true) (h : ste s = ste t) : s = t := by
  have a := tst_back hs gs
  have b := tst_back ht gt
  rw [h, b] at a
  exact (Prod.mk.inj a).2.symm
theorem raw_n (l : List UInt8) : (rawR l).val.2.2.1 = (vd 0 (many (fun _ => pR) 2 0 (many (fun _ => num 8) 2 0 l).rest).rest).val := by simp only [rawR, seq]
/-- A proper beginning of a state's bytes is torn. -/
theorem tst_cut {s : St} (h : s.fit) (hg : s.good = true) (p t : List UInt8) (he : ste s = p ++ t) (ht : t ≠ []) : tst p = (10, .zero) := by
  have h8 := good_few hg
  have hok := raw_ok h (by omega)
  have hc := good_raw.cut (rawS s) p t hok (by rw [ste_raw]; exact he) ht
  have hn : (rawR p).val.2.2.1 ≤ 8 := by
    rw [← ste_raw] at he
    obtain ⟨k1, k2, k3, _⟩ := hok
    rw [raw_n]
    have nil2 : (many (fun _ => pR) 2 0 []).rest = [] := by
      have := (good_many (fun _ : Nat => good_p) 2 0).len []
      exact List.eq_nil_of_length_eq_zero (by simpa using this)
    have vnil : (vd 0 []).val = 0 := rfl
    rcases begin_two he with ⟨u, e1, e2⟩ | ⟨q, rfl, e2⟩
    · obtain ⟨_, c2⟩ := (good_many (fun _ : Nat => num_good 8) 2 0).cut _ p u k1 e1 e2
      rw [c2, nil2, vnil]; omega
    · have y1 := (good_many (fun _ : Nat => num_good 8) 2 0).yes _ q k1
      rw [y1]
      dsimp only
      rcases begin_two e2 with ⟨u, e3, e4⟩ | ⟨q', rfl, e4⟩
      · obtain ⟨_, c2⟩ := (good_many (fun _ : Nat => good_p) 2 0).cut _ q u k2 e3 e4
        rw [c2, vnil]; omega
      · have y2 := (good_many (fun _ : Nat => good_p) 2 0).yes _ q' k2
        rw [y2]
        dsimp only
        rcases begin_two e4 with ⟨u, e5, e6⟩ | ⟨q'', rfl, e6⟩
        · rw [vd_vrF_cut 9 0 _ q' u e5 e6 (by omega)]
          exact Nat.zero_le 8
        · rw [vd_vr _ _ k3]
          exact h8
  unfold tst
  rw [if_neg (by omega), if_pos (by rw [hc.1]; decide), hc.1]
end Go.Proofs.YtacgmadgkmcmoaaGreatDoor
/- A block of cells read whole: one step of the walk, whatever the count of its cells. Nothing of the program but the type of a state. -/
namespace Go.Proofs.YtacgmadgkmcmoaaGreatDoor
open Go.RowKit
set_option linter.unusedVariables false

/-- The cells of a block. -/
def rowOf (w : World) (g : Nat) : Array Value := match w.heap[g]? with | some (.cells cs _ _) => cs | _ => #[]
theorem rowOf_cells {w : World} {g : Nat} {t : TypeId} {cs : Array Value} (h : Cells w g t cs) : rowOf w g = cs := by
  unfold Cells at h; unfold rowOf; rw [h]
theorem rowOf_new (w : World) (g : Nat) (cs : Array Value) (t : TypeId) (h : g = w.heap.size) : rowOf (w.alloc (.cells cs t)) g = cs := by
  subst h; exact rowOf_cells (Cells.made w t cs)
theorem rowOf_old (w : World) (g : Nat) (o : Obj) (h : g < w.heap.size) : rowOf (w.alloc o) g = rowOf w g := by
  unfold rowOf; rw [Below.heap_alloc w o g h]
theorem rowOf_drew (w : World) (g : Nat) : rowOf w.drew g = rowOf w g := rfl
theorem rowOf_drewN (w : World) (g n : Nat) : rowOf (w.drewN n) g = rowOf w g := rfl
theorem rowOf_shape {w : World} {g n : Nat} (h : (rowOf w g).size = n) (hn : 0 < n) : ∃ cs t fr, w.heap[g]? = some (.cells cs t fr) := by
  unfold rowOf at h
  split at h
  · rename_i cs t fr hq; exact ⟨cs, t, fr, hq⟩
  · simp at h; omega
theorem load_state (w : World) (g : Nat) (h : (rowOf w g).size = 19) : (loadVar 34 ⟨g, 0, none⟩).run Tryz.prog w = .ok (.agg (rowOf w g)) w := by
  obtain ⟨cs, t, fr, hg⟩ := rowOf_shape h (by omega)
  have e : rowOf w g = cs := by unfold rowOf; rw [hg]
  rw [e] at h ⊢
  exact run_loadVar_row w g t 34 cs fr _ hg Tryz.underlying34 rfl (by rw [h]; kernel_rfl)
/-- A state read whole. -/
def loadState (v : Value) : Sem Value := Instr.loadAt 34 v
theorem loadAt_state (v : Value) : Instr.loadAt 34 v = loadState v := rfl
theorem run_loadState (w : World) (g : Nat) (h : (rowOf w g).size = 19) : (loadState (.pointer (some ⟨g, 0, none⟩))).run Tryz.prog w = .ok (.agg (rowOf w g)) w := by
  unfold loadState
  simp only [Instr.loadAt, Instr.sureAddr, Sem.run_bind, Sem.run_pure, Result.andThen_ok]
  exact load_state w g h
end Go.Proofs.YtacgmadgkmcmoaaGreatDoor
/- A player and a shot as their numbers, and numbers as a player or a shot: one contract each. -/
namespace Go.Proofs.YtacgmadgkmcmoaaGreatDoor
open Go.RowKit
set_option linter.unusedVariables false

def i32v (l : List Int) : Array Value := (l.map fun z => Value.int .i32 z).toArray
def pv (p : Pl) : Value := .agg #[.int .i32 p.x, .int .i32 p.y, .int .i32 p.vx, .int .i32 p.vy, .int .u8 (p.h : Int), .int .u8 (p.c : Int), .int .u8 (p.f : Int)]
def hv (s : Sh) : Value := .agg #[.int .i32 s.x, .int .i32 s.y, .int .i32 s.vx, .int .i32 s.vy, .int .u8 (s.o : Int), .int .u8 (s.l : Int)]
theorem i32_id {n : Nat} (h : n < 256) : IntKind.i32.wrap (n : Int) = (n : Int) := by
  simp [IntKind.wrap, IntKind.bits, IntKind.signed]; omega

theorem ofPlayer_c (p : Pl) (w : World) (h : p.fit) :
    Calls Tryz.prog 136 #[pv p] w fun E w' => ∃ g, E = .returned (.slice (some ⟨g, 0, none⟩) 7 7) ∧ w.heap.size ≤ g ∧ Cells w' g 21 (i32v p.nums) ∧ w.grownBy w' none := by
  obtain ⟨_, _, _, _, h5, h6, h7⟩ := h
  have e5 := i32_id h5
  have e6 := i32_id h6
  have e7 := i32_id h7
  clear h5 h6 h7
  unfold pv
  go_enter Tryz.func136, Tryz.ntmps136
  go_wp2
  go_ret
  exact ⟨_, rfl, by simp, heap_alloc2_new w _ _, (grown_alloc _ _).trans (grown_alloc _ _)⟩
theorem ofShot_c (s : Sh) (w : World) (h : s.fit) :
    Calls Tryz.prog 138 #[hv s] w fun E w' => ∃ g, E = .returned (.slice (some ⟨g, 0, none⟩) 6 6) ∧ w.heap.size ≤ g ∧ Cells w' g 21 (i32v s.nums) ∧ w.grownBy w' none := by
  obtain ⟨_, _, _, _, h5, h6⟩ := h
  have e5 := i32_id h5
  have e6 := i32_id h6
  clear h5 h6
  unfold hv
  go_enter Tryz.func138, Tryz.ntmps138
  go_wp2
  go_ret
  exact ⟨_, rfl, by simp, heap_alloc2_new w _ _, (grown_alloc _ _).trans (grown_alloc _ _)⟩
end Go.Proofs.YtacgmadgkmcmoaaGreatDoor
/- Whether all parts of players, of shots, are within their bounds; Check, and the document's: one contract each. -/
namespace Go.Proofs.YtacgmadgkmcmoaaGreatDoor
open Go.RowKit
set_option linter.unusedVariables false

/-- The table of bounds lies in the listed variable of this name. -/
def BTab (w : World) : Prop := 0 < w.heap.size ∧ ∀ i : Nat, i < 13 → w.cell? ⟨0, i * 2, none⟩ = some (.int .i32 (lo i)) ∧ w.cell? ⟨0, i * 2 + 1, none⟩ = some (.int .i32 (hi i))
theorem btab_grown {w w' : World} {r : Option Nat} (h : BTab w) (hb : w.grownBy w' r) (hr : r ≠ some 0) : BTab w' :=
  ⟨Nat.lt_of_lt_of_le h.1 hb.size, fun i hi => ⟨(World.cell?_of_block (hb.block 0 h.1 (Ne.symm hr))).trans (h.2 i hi).1, (World.cell?_of_block (hb.block 0 h.1 (Ne.symm hr))).trans (h.2 i hi).2⟩⟩
theorem btab_below {w w' : World} {B : Nat} (h : BTab w) (hb : Below B w w') (hB : 0 < B) : BTab w' :=
  ⟨Nat.lt_of_lt_of_le h.1 hb.size, fun i hi => ⟨(hb.cell (p := ⟨0, i * 2, none⟩) hB).trans (h.2 i hi).1, (hb.cell (p := ⟨0, i * 2 + 1, none⟩) hB).trans (h.2 i hi).2⟩⟩
theorem tab_drew {w : World} (h : BTab w) : BTab w.drew := h
theorem go_at {w w' : World} {b o : Nat} {v : Value} (hb : w.grownBy w' none) (h : w.cell? ⟨b, o, none⟩ = some v) : w'.cell? ⟨b, o, none⟩ = some v :=
  (World.cell?_of_block (hb.block b (World.block_lt_of_cell? w _ h) (by simp))).trans h
theorem i32v_at (l : List Int) (j : Nat) (h : j < l.length) : (i32v l)[j]? = some (.int .i32 (l.getD j 0)) := by
  simp [i32v, List.getElem?_eq_getElem h]
theorem okF_at : ∀ (l : List Int) (i j : Nat), okF i l = true → j < l.length → okA (i + j) (l.getD j 0) = true
  | [], _, _, _, h => by simp at h
  | a :: l, i, 0, h, _ => by simp only [okF, Bool.and_eq_true] at h; exact h.1
  | a :: l, i, j + 1, h, hj => by
    simp only [okF, Bool.and_eq_true] at h
    have := okF_at l (i + 1) j h.2 (by simpa using hj)
    rwa [show i + 1 + j = i + (j + 1) from by omega] at this
theorem take_next (l : List Int) (j : Nat) (h : j < l.length) : l.take (j + 1) = l.take j ++ [l.getD j 0] := by
  rw [List.take_succ_eq_append_getElem h]; simp [List.getD, List.getElem?_eq_getElem h]
theorem okF_next {l : List Int} {i j : Nat} (h : okF i (l.take j) = true) (hj : j < l.length) (ha : okA (i + j) (l.getD j 0) = true) : okF i (l.take (j + 1)) = true := by
  rw [take_next l j hj, okF_snoc, h, List.length_take, Nat.min_eq_left (by omega), ha]; rfl
theorem okA_of {r : Nat} {n : Int} (h1 : ¬ n < lo r) (h2 : ¬ hi r < n) : okA r n = true := by
  unfold okA; exact decide_eq_true ⟨by omega, by omega⟩
theorem okA_low {r : Nat} {n : Int} (h1 : n < lo r) : okA r n = false := by
  unfold okA; exact decide_eq_false (by omega)
theorem okA_high {r : Nat} {n : Int} (h1 : hi r < n) : okA r n = false := by
  unfold okA; exact decide_eq_false (by omega)
theorem not_okF {l : List Int} {i j : Nat} (h : okA (i + j) (l.getD j 0) = false) (hj : j < l.length) : okF i l = false := by
  cases ho : okF i l
  · rfl
  · rw [okF_at l i j ho hj] at h; cases h
theorem all_bad {α : Type} {p : α → Bool} {l : List α} {k : Nat} (h : k < l.length) (hp : p (l[k]'h) = false) : l.all p = false :=
  List.all_eq_false.2 ⟨_, List.getElem_mem h, by simp [hp]⟩
theorem all_next {α : Type} {p : α → Bool} {l : List α} {k : Nat} (h : k < l.length) (hk : (l.take k).all p = true) (hp : p (l[k]'h) = true) : (l.take (k + 1)).all p = true := by
  rw [List.take_succ_eq_append_getElem h, List.all_append, hk]; simp [hp]

/-- Shots can be read at this address, each one fit. -/
def Shs (w : World) (ao : Option Addr) (l : List Sh) : Prop :=
  ∀ k (h : k < l.length), (l[k]'h).fit ∧ ∃ b o, ao = some ⟨b, o, none⟩ ∧ ∀ i v, [Value.int .i32 (l[k]'h).x, .int .i32 (l[k]'h).y, .int .i32 (l[k]'h).vx, .int .i32 (l[k]'h).vy, .int .u8 ((l[k]'h).o : Int), .int .u8 ((l[k]'h).l : Int)][i]? = some v → w.cell? ⟨b, o + k * 6 + i, none⟩ = some v
theorem Shs_grown {w w' : World} {r : Option Nat} {ao : Option Addr} {l : List Sh} (h : Shs w ao l) (hb : w.grownBy w' r) (hr : ∀ a, ao = some a → r ≠ some a.block) : Shs w' ao l := fun k hk => by
  obtain ⟨hf, b, o, e, hc⟩ := h k hk
  refine ⟨hf, b, o, e, fun i v hv => ?_⟩
  have := hc i v hv
  exact (World.cell?_of_block (hb.block b (World.block_lt_of_cell? w _ this) (by rw [e] at hr; exact Ne.symm (hr _ rfl)))).trans this
set_option maxHeartbeats 1000000 in
set_option maxRecDepth 20000 in
theorem withinSh (ao : Option Addr) (cap : Nat) (l : List Sh) (w : World) (h : Shs w ao l) (hl : l.length ≤ 100000) (ht : BTab w) :
    Calls Tryz.prog 137 #[.slice ao l.length cap, .func (.func 138) #[] #[], .int .i64 7] w fun E w' => E = .returned (.bool (l.all Sh.good)) ∧ w.grownBy w' none := by
  have HT := Lib.hid ht
  clear ht
  go_enter Tryz.func137, Tryz.ntmps137
  go_wp2
  go_loopw [14] (fun v wr => ∃ k : Nat, k ≤ l.length ∧ v = .int .i64 k ∧ Hid ((l.take k).all Sh.good = true) ∧ w.grownBy wr none) (fun v _ => l.length - (intOf v).toNat)
  case atStart => exact ⟨0, by omega, rfl, by simp [Hid], grown_refl _ _⟩
  case round =>
    obtain ⟨k, hk, rfl, hg, hb⟩ := hrel
    by_cases hlt : k < l.length
    · obtain ⟨hfit, b, o, rfl, hc⟩ := h k hlt
      have c0 : wr.cell? ⟨b, o + k * 6, none⟩ = some (.int .i32 (l[k]'hlt).x) := go_at hb (hc 0 _ rfl)
      have c1 : wr.cell? ⟨b, o + k * 6 + 1, none⟩ = some (.int .i32 (l[k]'hlt).y) := go_at hb (hc 1 _ rfl)
      have c2 : wr.cell? ⟨b, o + k * 6 + 2, none⟩ = some (.int .i32 (l[k]'hlt).vx) := go_at hb (hc 2 _ rfl)
      have c3 : wr.cell? ⟨b, o + k * 6 + 3, none⟩ = some (.int .i32 (l[k]'hlt).vy) := go_at hb (hc 3 _ rfl)
      have c4 : wr.cell? ⟨b, o + k * 6 + 4, none⟩ = some (.int .u8 ((l[k]'hlt).o : Int)) := go_at hb (hc 4 _ rfl)
      have c5 : wr.cell? ⟨b, o + k * 6 + 5, none⟩ = some (.int .u8 ((l[k]'hlt).l : Int)) := go_at hb (hc 5 _ rfl)
      have HA : Hid (((l[k]'hlt).good = false → l.all Sh.good = false) ∧ ((l[k]'hlt).good = true → (l.take (k + 1)).all Sh.good = true)) := ⟨fun e => all_bad hlt e, fun e => all_next hlt hg e⟩
      have HB := Lib.hid hb
      have HF := Lib.hid hfit
      clear hc hg hb h hfit
      generalize hs : (l[k]'hlt) = s at *
      clear hs
      go_wp2_with fail
      refine (ofShot_c s _ HF.out).mono ?_
      rintro E w1 ⟨g, rfl, hgs, hgc, hgb⟩
      have HW := Lib.hid ((HB.out.trans (grown_alloc _ _)).trans hgb)
      have HC := Lib.hid hgc
      have HL := Lib.hid hgs
      clear hgs hgc hgb HB
      go_wp2
      go_loopw [23] (fun v wr => ∃ j : Nat, j ≤ 6 ∧ v = .int .i64 j ∧ Hid (okF 7 (s.nums.take j) = true) ∧ Hid (w.grownBy wr none) ∧ Hid (Cells wr g 21 (i32v s.nums))) (fun v _ => 6 - (intOf v).toNat)
      case atStart => exact ⟨0, by omega, rfl, by simp [Hid, okF], HW, HC⟩
      case round =>
        obtain ⟨j, hj, rfl, HO, HW2, HC2⟩ := hrel
        by_cases hlt2 : j < 6
        · have hjl : j < s.nums.length := hlt2
          have n0 : wr.cell? ⟨g, j, none⟩ = some (.int .i32 (s.nums.getD j 0)) := by rw [HC2.out.cell, i32v_at _ _ hjl]
          have hji : (j : Int) < 6 := by omega
          have hgl := HC2.out.lt
          have ht := btab_grown HT.out HW2.out (by simp)
          obtain ⟨t0, t1⟩ := ht.2 (7 + j) (by omega)
          have HT2 := Lib.hid ht
          have HN1 : Hid (okA (7 + j) (s.nums.getD j 0) = false → s.good = false) := fun e => not_okF e hjl
          have HN2 : Hid (okA (7 + j) (s.nums.getD j 0) = true → okF 7 (s.nums.take (j + 1)) = true) := fun e => okF_next HO.out hjl e
          have er : IntKind.i64.wrap (7 + (j : Int)) = ((7 + j : Nat) : Int) := by rw [IntWalk.i64_in _ (by omega)]; omega
          clear hjl ht HO
          generalize s.nums.getD j 0 = n at *
          obtain ⟨r, hr⟩ : ∃ r, r = 7 + j := ⟨_, rfl⟩
          rw [← hr] at t0 t1 er HN1 HN2
          have hr13 : r < 13 := by omega
          have HLO : Hid (∀ h : n < lo r, okA r n = false) := fun h => okA_low h
          have HHI : Hid (∀ h : hi r < n, okA r n = false) := fun h => okA_high h
          have HOK : Hid (¬ n < lo r → ¬ hi r < n → okA r n = true) := fun h k => okA_of h k
          clear hr
          generalize lo r = a at *
          generalize hi r = z at *
          by_cases hn1 : n < a
          · have HX := Lib.hid (HA.out.1 (HN1.out (HLO.out hn1)))
            have hq : decide (n < a) = true := decide_eq_true hn1
            go_wp2_with fail
            go_quiet (fail)
            go_wp2
            go_ret
            exact ⟨by rw [HX.out]; rfl, (HW2.out.trans (grown_alloc _ _)).trans (grown_drewN _ _ _)⟩
          · have hq : decide (n < a) = false := decide_eq_false hn1
            by_cases hn2 : z < n
            · have HX := Lib.hid (HA.out.1 (HN1.out (HHI.out hn2)))
              go_wp2_with fail
              go_quiet (fail)
              go_wp2
              go_ret
              exact ⟨by rw [HX.out]; rfl, (HW2.out.trans (grown_alloc _ _)).trans (grown_drewN _ _ _)⟩
            · have HX := Lib.hid (HN2.out (HOK.out hn1 hn2))
              go_wp2_with fail
              go_quiet (fail)
              go_wp2
              go_roundw
              case rel => exact ⟨j + 1, by omega, by go_num, HX, (HW2.out.trans (grown_alloc _ _)).trans (grown_drewN _ _ _), HC2.out.alloc _⟩
              case measure => simp [intOf]; omega
        · obtain rfl : j = 6 := by omega
          have HX := Lib.hid (HA.out.2 HO.out)
          clear HO
          go_wp2
          go_roundw
          case rel => exact ⟨k + 1, by omega, by go_num, HX, HW2.out⟩
          case measure => simp [intOf]; omega
    · have hkl : k = l.length := by omega
      have HG := Lib.hid (show l.all Sh.good = true by have := hg.out; rwa [hkl, List.take_length] at this)
      have HB := Lib.hid hb
      clear hkl hg hb h
      go_wp2
      go_ret
      exact ⟨by rw [HG.out]; rfl, HB.out⟩

/-- Players can be read at this address, each one fit. -/
def Pls (w : World) (ao : Option Addr) (l : List Pl) : Prop :=
  ∀ k (h : k < l.length), (l[k]'h).fit ∧ ∃ b o, ao = some ⟨b, o, none⟩ ∧ ∀ i v, [Value.int .i32 (l[k]'h).x, .int .i32 (l[k]'h).y, .int .i32 (l[k]'h).vx, .int .i32 (l[k]'h).vy, .int .u8 ((l[k]'h).h : Int), .int .u8 ((l[k]'h).c : Int), .int .u8 ((l[k]'h).f : Int)][i]? = some v → w.cell? ⟨b, o + k * 7 + i, none⟩ = some v
theorem Pls_grown {w w' : World} {r : Option Nat} {ao : Option Addr} {l : List Pl} (h : Pls w ao l) (hb : w.grownBy w' r) (hr : ∀ a, ao = some a → r ≠ some a.block) : Pls w' ao l := fun k hk => by
  obtain ⟨hf, b, o, e, hc⟩ := h k hk
  refine ⟨hf, b, o, e, fun i v hv => ?_⟩
  have := hc i v hv
  exact (World.cell?_of_block (hb.block b (World.block_lt_of_cell? w _ this) (by rw [e] at hr; exact Ne.symm (hr _ rfl)))).trans this
set_option maxHeartbeats 1000000 in
set_option maxRecDepth 20000 in
theorem withinPl (ao : Option Addr) (cap : Nat) (l : List Pl) (w : World) (h : Pls w ao l) (hl : l.length ≤ 100000) (ht : BTab w) :
    Calls Tryz.prog 135 #[.slice ao l.length cap, .func (.func 136) #[] #[], .int .i64 0] w fun E w' => E = .returned (.bool (l.all Pl.good)) ∧ w.grownBy w' none := by
  have HT := Lib.hid ht
  clear ht
  go_enter Tryz.func135, Tryz.ntmps135
  go_wp2
  go_loopw [14] (fun v wr => ∃ k : Nat, k ≤ l.length ∧ v = .int .i64 k ∧ Hid ((l.take k).all Pl.good = true) ∧ w.grownBy wr none) (fun v _ => l.length - (intOf v).toNat)
  case atStart => exact ⟨0, by omega, rfl, by simp [Hid], grown_refl _ _⟩
  case round =>
    obtain ⟨k, hk, rfl, hg, hb⟩ := hrel
    by_cases hlt : k < l.length
    · obtain ⟨hfit, b, o, rfl, hc⟩ := h k hlt
      have c0 : wr.cell? ⟨b, o + k * 7, none⟩ = some (.int .i32 (l[k]'hlt).x) := go_at hb (hc 0 _ rfl)
      have c1 : wr.cell? ⟨b, o + k * 7 + 1, none⟩ = some (.int .i32 (l[k]'hlt).y) := go_at hb (hc 1 _ rfl)
      have c2 : wr.cell? ⟨b, o + k * 7 + 2, none⟩ = some (.int .i32 (l[k]'hlt).vx) := go_at hb (hc 2 _ rfl)
      have c3 : wr.cell? ⟨b, o + k * 7 + 3, none⟩ = some (.int .i32 (l[k]'hlt).vy) := go_at hb (hc 3 _ rfl)
      have c4 : wr.cell? ⟨b, o + k * 7 + 4, none⟩ = some (.int .u8 ((l[k]'hlt).h : Int)) := go_at hb (hc 4 _ rfl)
      have c5 : wr.cell? ⟨b, o + k * 7 + 5, none⟩ = some (.int .u8 ((l[k]'hlt).c : Int)) := go_at hb (hc 5 _ rfl)
      have c6 : wr.cell? ⟨b, o + k * 7 + 6, none⟩ = some (.int .u8 ((l[k]'hlt).f : Int)) := go_at hb (hc 6 _ rfl)
      have HA : Hid (((l[k]'hlt).good = false → l.all Pl.good = false) ∧ ((l[k]'hlt).good = true → (l.take (k + 1)).all Pl.good = true)) := ⟨fun e => all_bad hlt e, fun e => all_next hlt hg e⟩
      have HB := Lib.hid hb
      have HF := Lib.hid hfit
      clear hc hg hb h hfit
      generalize hs : (l[k]'hlt) = s at *
      clear hs
      go_wp2_with fail
      refine (ofPlayer_c s _ HF.out).mono ?_
      rintro E w1 ⟨g, rfl, hgs, hgc, hgb⟩
      have HW := Lib.hid ((HB.out.trans (grown_alloc _ _)).trans hgb)
      have HC := Lib.hid hgc
      have HL := Lib.hid hgs
      clear hgs hgc hgb HB
      go_wp2
      go_loopw [23] (fun v wr => ∃ j : Nat, j ≤ 7 ∧ v = .int .i64 j ∧ Hid (okF 0 (s.nums.take j) = true) ∧ Hid (w.grownBy wr none) ∧ Hid (Cells wr g 21 (i32v s.nums))) (fun v _ => 7 - (intOf v).toNat)
      case atStart => exact ⟨0, by omega, rfl, by simp [Hid, okF], HW, HC⟩
      case round =>
        obtain ⟨j, hj, rfl, HO, HW2, HC2⟩ := hrel
        by_cases hlt2 : j < 7
        · have hjl : j < s.nums.length := hlt2
          have n0 : wr.cell? ⟨g, j, none⟩ = some (.int .i32 (s.nums.getD j 0)) := by rw [HC2.out.cell, i32v_at _ _ hjl]
          have hji : (j : Int) < 7 := by omega
          have hgl := HC2.out.lt
          have ht := btab_grown HT.out HW2.out (by simp)
          obtain ⟨t0, t1⟩ := ht.2 (0 + j) (by omega)
          have HT2 := Lib.hid ht
          have HN1 : Hid (okA (0 + j) (s.nums.getD j 0) = false → s.good = false) := fun e => not_okF e hjl
          have HN2 : Hid (okA (0 + j) (s.nums.getD j 0) = true → okF 0 (s.nums.take (j + 1)) = true) := fun e => okF_next HO.out hjl e
          have er : IntKind.i64.wrap (0 + (j : Int)) = ((0 + j : Nat) : Int) := by rw [IntWalk.i64_in _ (by omega)]; omega
          clear hjl ht HO
          generalize s.nums.getD j 0 = n at *
          obtain ⟨r, hr⟩ : ∃ r, r = 0 + j := ⟨_, rfl⟩
          rw [← hr] at t0 t1 er HN1 HN2
          have hr13 : r < 13 := by omega
          have HLO : Hid (∀ h : n < lo r, okA r n = false) := fun h => okA_low h
          have HHI : Hid (∀ h : hi r < n, okA r n = false) := fun h => okA_high h
          have HOK : Hid (¬ n < lo r → ¬ hi r < n → okA r n = true) := fun h k => okA_of h k
          skip
          generalize lo r = a at *
          generalize hi r = z at *
          obtain rfl : j = r := by omega
          clear er hr
          by_cases hn1 : n < a
          · have HX := Lib.hid (HA.out.1 (HN1.out (HLO.out hn1)))
            have hq : decide (n < a) = true := decide_eq_true hn1
            go_wp2_with fail
            go_quiet (fail)
            go_wp2
            go_ret
            exact ⟨by rw [HX.out]; rfl, (HW2.out.trans (grown_alloc _ _)).trans (grown_drewN _ _ _)⟩
          · have hq : decide (n < a) = false := decide_eq_false hn1
            by_cases hn2 : z < n
            · have HX := Lib.hid (HA.out.1 (HN1.out (HHI.out hn2)))
              go_wp2_with fail
              go_quiet (fail)
              go_wp2
              go_ret
              exact ⟨by rw [HX.out]; rfl, (HW2.out.trans (grown_alloc _ _)).trans (grown_drewN _ _ _)⟩
            · have HX := Lib.hid (HN2.out (HOK.out hn1 hn2))
              go_wp2_with fail
              go_quiet (fail)
              go_wp2
              go_roundw
              case rel => exact ⟨j + 1, by omega, by go_num, HX, (HW2.out.trans (grown_alloc _ _)).trans (grown_drewN _ _ _), HC2.out.alloc _⟩
              case measure => simp [intOf]; omega
        · obtain rfl : j = 7 := by omega
          have HX := Lib.hid (HA.out.2 HO.out)
          clear HO
          go_wp2
          go_roundw
          case rel => exact ⟨k + 1, by omega, by go_num, HX, HW2.out⟩
          case measure => simp [intOf]; omega
    · have hkl : k = l.length := by omega
      have HG := Lib.hid (show l.all Pl.good = true by have := hg.out; rwa [hkl, List.take_length] at this)
      have HB := Lib.hid hb
      clear hkl hg hb h
      go_wp2
      go_ret
      exact ⟨by rw [HG.out]; rfl, HB.out⟩
end Go.Proofs.YtacgmadgkmcmoaaGreatDoor
/- Whether a player, a shot, a state may be: the document's functions, and Check: one contract each. -/
namespace Go.Proofs.YtacgmadgkmcmoaaGreatDoor
open Go.RowKit
set_option linter.unusedVariables false

def inb (n a b : Int) : Bool := decide (a ≤ n ∧ n ≤ b)
theorem in_c (n a b : Int) (w : World) : Calls Tryz.prog 185 #[.int .i32 n, .int .i32 a, .int .i32 b] w fun E w' => E = .returned (.bool (inb n a b)) ∧ w = w' := by
  by_cases h1 : a ≤ n
  · by_cases h2 : n ≤ b
    · rw [show inb n a b = true from decide_eq_true ⟨h1, h2⟩]
      go_enter Tryz.func185, Tryz.ntmps185
      go_wp2; go_ret; exact ⟨rfl, rfl⟩
    · rw [show inb n a b = false from decide_eq_false (by omega)]
      go_enter Tryz.func185, Tryz.ntmps185
      go_wp2; go_ret; exact ⟨rfl, rfl⟩
  · rw [show inb n a b = false from decide_eq_false (by omega)]
    go_enter Tryz.func185, Tryz.ntmps185
    go_wp2; go_ret; exact ⟨rfl, rfl⟩
theorem goodPlayer (p : Pl) : p.good = (inb p.x 0 61440 && (inb p.y 0 28672 && (inb p.vx (-1024) 1024 && (inb p.vy (-1024) 1024 && (inb (p.h : Int) 1 100 && (inb (p.c : Int) 0 30 && (inb (p.f : Int) 0 3 && true))))))) := rfl
set_option maxRecDepth 20000 in
theorem refPlayer (p : Pl) (w : World) :
    Calls Tryz.prog 149 #[pv p] w fun E w' => E = .returned (.bool p.good) ∧ w.grownBy w' none := by
  rw [goodPlayer]
  unfold pv
  have C0 : Hid (∀ w : World, Calls Tryz.prog 185 #[.int .i32 p.x, .int .i32 0, .int .i32 61440] w fun E w' => E = .returned (.bool (inb p.x 0 61440)) ∧ w = w') := fun w => in_c _ _ _ w
  have C1 : Hid (∀ w : World, Calls Tryz.prog 185 #[.int .i32 p.y, .int .i32 0, .int .i32 28672] w fun E w' => E = .returned (.bool (inb p.y 0 28672)) ∧ w = w') := fun w => in_c _ _ _ w
  have C2 : Hid (∀ w : World, Calls Tryz.prog 185 #[.int .i32 p.vx, .int .i32 (-1024), .int .i32 1024] w fun E w' => E = .returned (.bool (inb p.vx (-1024) 1024)) ∧ w = w') := fun w => in_c _ _ _ w
  have C3 : Hid (∀ w : World, Calls Tryz.prog 185 #[.int .i32 p.vy, .int .i32 (-1024), .int .i32 1024] w fun E w' => E = .returned (.bool (inb p.vy (-1024) 1024)) ∧ w = w') := fun w => in_c _ _ _ w
  generalize inb p.x 0 61440 = b0 at *
  generalize inb p.y 0 28672 = b1 at *
  generalize inb p.vx (-1024) 1024 = b2 at *
  generalize inb p.vy (-1024) 1024 = b3 at *
  have Eh : Hid (∀ q, (decide (1 ≤ (p.h : Int) ∧ (p.h : Int) ≤ 100) = q → inb (p.h : Int) 1 100 = q)) := fun q h => h
  have Ec : Hid (∀ q, (decide (0 ≤ (p.c : Int) ∧ (p.c : Int) ≤ 30) = q → inb (p.c : Int) 0 30 = q)) := fun q h => h
  have Ef : Hid (∀ q, (decide (0 ≤ (p.f : Int) ∧ (p.f : Int) ≤ 3) = q → inb (p.f : Int) 0 3 = q)) := fun q h => h
  generalize inb (p.h : Int) 1 100 = gh at *
  generalize inb (p.c : Int) 0 30 = gc at *
  generalize inb (p.f : Int) 0 3 = gf at *
  go_enter Tryz.func149, Tryz.ntmps149
  go_wp2_with fail
  refine (C0.out _).mono ?_
  rintro E w1 ⟨rfl, rfl⟩
  cases b0
  · go_wp2; go_ret; exact ⟨by first | (simp; done) | (simp; omega), grown_alloc _ _⟩
  go_wp2_with fail
  refine (C1.out _).mono ?_
  rintro E w1 ⟨rfl, rfl⟩
  cases b1
  · go_wp2; go_ret; exact ⟨by first | (simp; done) | (simp; omega), grown_alloc _ _⟩
  go_wp2_with fail
  refine (C2.out _).mono ?_
  rintro E w1 ⟨rfl, rfl⟩
  cases b2
  · go_wp2; go_ret; exact ⟨by first | (simp; done) | (simp; omega), grown_alloc _ _⟩
  go_wp2_with fail
  refine (C3.out _).mono ?_
  rintro E w1 ⟨rfl, rfl⟩
  cases b3
  · go_wp2; go_ret; exact ⟨by first | (simp; done) | (simp; omega), grown_alloc _ _⟩
  by_cases h1 : (1 : Int) ≤ (p.h : Int)
  rotate_left
  · have e := Eh.out false (decide_eq_false (by omega))
    subst e
    go_wp2; go_ret; exact ⟨by first | (simp; done) | (simp; omega), grown_alloc _ _⟩
  by_cases h2 : (p.h : Int) ≤ 100
  rotate_left
  · have e := Eh.out false (decide_eq_false (by omega))
    subst e
    go_wp2; go_ret; exact ⟨by first | (simp; done) | (simp; omega), grown_alloc _ _⟩
  by_cases h3 : (p.c : Int) ≤ 30
  rotate_left
  · have e := Ec.out false (decide_eq_false (by omega))
    subst e
    go_wp2; go_ret; exact ⟨by first | (simp; done) | (simp; omega), grown_alloc _ _⟩
  by_cases h4 : (p.f : Int) ≤ 3
  rotate_left
  · have e := Ef.out false (decide_eq_false (by omega))
    subst e
    go_wp2; go_ret; exact ⟨by first | (simp; done) | (simp; omega), grown_alloc _ _⟩
  have eh := Eh.out true (decide_eq_true (by omega))
  subst eh
  have ec := Ec.out true (decide_eq_true (by omega))
  subst ec
  have ef := Ef.out true (decide_eq_true (by omega))
  subst ef
  go_wp2; go_ret; exact ⟨by first | (simp; done) | (simp; omega), grown_alloc _ _⟩
theorem goodShot (p : Sh) : p.good = (inb p.x 0 65024 && (inb p.y 0 32256 && (inb p.vx (-2048) 2048 && (inb p.vy (-2048) 2048 && (inb (p.o : Int) 0 1 && (inb (p.l : Int) 1 40 && true)))))) := rfl
set_option maxRecDepth 20000 in
theorem refShot (p : Sh) (w : World) :
    Calls Tryz.prog 150 #[hv p] w fun E w' => E = .returned (.bool p.good) ∧ w.grownBy w' none := by
  rw [goodShot]
  unfold hv
  have C0 : Hid (∀ w : World, Calls Tryz.prog 185 #[.int .i32 p.x, .int .i32 0, .int .i32 65024] w fun E w' => E = .returned (.bool (inb p.x 0 65024)) ∧ w = w') := fun w => in_c _ _ _ w
  have C1 : Hid (∀ w : World, Calls Tryz.prog 185 #[.int .i32 p.y, .int .i32 0, .int .i32 32256] w fun E w' => E = .returned (.bool (inb p.y 0 32256)) ∧ w = w') := fun w => in_c _ _ _ w
  have C2 : Hid (∀ w : World, Calls Tryz.prog 185 #[.int .i32 p.vx, .int .i32 (-2048), .int .i32 2048] w fun E w' => E = .returned (.bool (inb p.vx (-2048) 2048)) ∧ w = w') := fun w => in_c _ _ _ w
  have C3 : Hid (∀ w : World, Calls Tryz.prog 185 #[.int .i32 p.vy, .int .i32 (-2048), .int .i32 2048] w fun E w' => E = .returned (.bool (inb p.vy (-2048) 2048)) ∧ w = w') := fun w => in_c _ _ _ w
  generalize inb p.x 0 65024 = b0 at *
  generalize inb p.y 0 32256 = b1 at *
  generalize inb p.vx (-2048) 2048 = b2 at *
  generalize inb p.vy (-2048) 2048 = b3 at *
  have Eo : Hid (∀ q, (decide (0 ≤ (p.o : Int) ∧ (p.o : Int) ≤ 1) = q → inb (p.o : Int) 0 1 = q)) := fun q h => h
  have El : Hid (∀ q, (decide (1 ≤ (p.l : Int) ∧ (p.l : Int) ≤ 40) = q → inb (p.l : Int) 1 40 = q)) := fun q h => h
  generalize inb (p.o : Int) 0 1 = go at *
  generalize inb (p.l : Int) 1 40 = gl at *
  go_enter Tryz.func150, Tryz.ntmps150
  go_wp2_with fail
  refine (C0.out _).mono ?_
  rintro E w1 ⟨rfl, rfl⟩
  cases b0
  · go_wp2; go_ret; exact ⟨by first | (simp; done) | (simp; omega), grown_alloc _ _⟩
  go_wp2_with fail
  refine (C1.out _).mono ?_
  rintro E w1 ⟨rfl, rfl⟩
  cases b1
  · go_wp2; go_ret; exact ⟨by first | (simp; done) | (simp; omega), grown_alloc _ _⟩
  go_wp2_with fail
  refine (C2.out _).mono ?_
  rintro E w1 ⟨rfl, rfl⟩
  cases b2
  · go_wp2; go_ret; exact ⟨by first | (simp; done) | (simp; omega), grown_alloc _ _⟩
  go_wp2_with fail
  refine (C3.out _).mono ?_
  rintro E w1 ⟨rfl, rfl⟩
  cases b3
  · go_wp2; go_ret; exact ⟨by first | (simp; done) | (simp; omega), grown_alloc _ _⟩
  by_cases h1 : (p.o : Int) ≤ 1
  rotate_left
  · have e := Eo.out false (decide_eq_false (by omega))
    subst e
    go_wp2; go_ret; exact ⟨by first | (simp; done) | (simp; omega), grown_alloc _ _⟩
  by_cases h2 : (1 : Int) ≤ (p.l : Int)
  rotate_left
  · have e := El.out false (decide_eq_false (by omega))
    subst e
    go_wp2; go_ret; exact ⟨by first | (simp; done) | (simp; omega), grown_alloc _ _⟩
  by_cases h3 : (p.l : Int) ≤ 40
  rotate_left
  · have e := El.out false (decide_eq_false (by omega))
    subst e
    go_wp2; go_ret; exact ⟨by first | (simp; done) | (simp; omega), grown_alloc _ _⟩
  have eo := Eo.out true (decide_eq_true (by omega))
  subst eo
  have el := El.out true (decide_eq_true (by omega))
  subst el
  go_wp2; go_ret; exact ⟨by first | (simp; done) | (simp; omega), grown_alloc _ _⟩
/-- A state as its cells. -/
abbrev stc (s : St) (ao : Option Addr) (cap : Nat) : Array Value :=
  #[.int .u64 (s.fr : Int), .int .u64 (s.sd : Int), .int .i32 s.p.x, .int .i32 s.p.y, .int .i32 s.p.vx, .int .i32 s.p.vy, .int .u8 (s.p.h : Int), .int .u8 (s.p.c : Int), .int .u8 (s.p.f : Int),
    .int .i32 s.q.x, .int .i32 s.q.y, .int .i32 s.q.vx, .int .i32 s.q.vy, .int .u8 (s.q.h : Int), .int .u8 (s.q.c : Int), .int .u8 (s.q.f : Int), .slice ao s.ss.length cap, .int .u16 (s.s0 : Int), .int .u16 (s.s1 : Int)]
abbrev sv (s : St) (ao : Option Addr) (cap : Nat) : Value := .agg (stc s ao cap)
/-- A state's block. -/
def Bk (w : World) (g : Nat) (s : St) (ao : Option Addr) (cap : Nat) : Prop := Cells w g 34 (stc s ao cap)
theorem Bk.of {w : World} {g : Nat} {s : St} {ao : Option Addr} {cap : Nat} (h : Bk w g s ao cap) (i : Nat) (v : Value) (hv : (stc s ao cap)[i]? = some v) : w.cell? ⟨g, i, none⟩ = some v := by rw [Cells.cell h, hv]
theorem bk_made (w : World) (s : St) (ao : Option Addr) (cap : Nat) : Bk (w.alloc (.cells (stc s ao cap) 34)) w.heap.size s ao cap := Cells.made w _ _
theorem bk_grown {w w' : World} {g : Nat} {s : St} {ao : Option Addr} {cap : Nat} {r : Option Nat} (h : Bk w g s ao cap) (hb : w.grownBy w' r) (hr : some g ≠ r) : Bk w' g s ao cap := Cells.grown h hb hr
theorem bk_cells {w : World} {g : Nat} {s : St} {ao : Option Addr} {cap : Nat} (h : Bk w g s ao cap) :
    w.cell? ⟨g, 0, none⟩ = some (.int .u64 (s.fr : Int)) ∧ w.cell? ⟨g, 1, none⟩ = some (.int .u64 (s.sd : Int)) ∧
    (w.cell? ⟨g, 2, none⟩ = some (.int .i32 s.p.x) ∧ w.cell? ⟨g, 3, none⟩ = some (.int .i32 s.p.y) ∧ w.cell? ⟨g, 4, none⟩ = some (.int .i32 s.p.vx) ∧ w.cell? ⟨g, 5, none⟩ = some (.int .i32 s.p.vy) ∧
      w.cell? ⟨g, 6, none⟩ = some (.int .u8 (s.p.h : Int)) ∧ w.cell? ⟨g, 7, none⟩ = some (.int .u8 (s.p.c : Int)) ∧ w.cell? ⟨g, 8, none⟩ = some (.int .u8 (s.p.f : Int))) ∧
    (w.cell? ⟨g, 9, none⟩ = some (.int .i32 s.q.x) ∧ w.cell? ⟨g, 10, none⟩ = some (.int .i32 s.q.y) ∧ w.cell? ⟨g, 11, none⟩ = some (.int .i32 s.q.vx) ∧ w.cell? ⟨g, 12, none⟩ = some (.int .i32 s.q.vy) ∧
      w.cell? ⟨g, 13, none⟩ = some (.int .u8 (s.q.h : Int)) ∧ w.cell? ⟨g, 14, none⟩ = some (.int .u8 (s.q.c : Int)) ∧ w.cell? ⟨g, 15, none⟩ = some (.int .u8 (s.q.f : Int))) ∧
    w.cell? ⟨g, 16, none⟩ = some (.slice ao s.ss.length cap) ∧ w.cell? ⟨g, 17, none⟩ = some (.int .u16 (s.s0 : Int)) ∧ w.cell? ⟨g, 18, none⟩ = some (.int .u16 (s.s1 : Int)) :=
  ⟨h.of 0 _ rfl, h.of 1 _ rfl, ⟨h.of 2 _ rfl, h.of 3 _ rfl, h.of 4 _ rfl, h.of 5 _ rfl, h.of 6 _ rfl, h.of 7 _ rfl, h.of 8 _ rfl⟩,
    ⟨h.of 9 _ rfl, h.of 10 _ rfl, h.of 11 _ rfl, h.of 12 _ rfl, h.of 13 _ rfl, h.of 14 _ rfl, h.of 15 _ rfl⟩, h.of 16 _ rfl, h.of 17 _ rfl, h.of 18 _ rfl⟩
theorem pls_of {w : World} {g : Nat} {s : St} {ao : Option Addr} {cap : Nat} (h : Bk w g s ao cap) (hp : s.p.fit) (hq : s.q.fit) : Pls w (some ⟨g, 2, none⟩) [s.p, s.q] := fun k hk => by
  have hk2 : k = 0 ∨ k = 1 := by simp at hk; omega
  rcases hk2 with rfl | rfl
  · refine ⟨hp, g, 2, rfl, fun i v hv => h.of (2 + 0 * 7 + i) v ?_⟩
    match i, hv with
    | 0, hv | 1, hv | 2, hv | 3, hv | 4, hv | 5, hv | 6, hv => exact hv
    | i + 7, hv => simp at hv
  · refine ⟨hq, g, 2, rfl, fun i v hv => h.of (2 + 1 * 7 + i) v ?_⟩
    match i, hv with
    | 0, hv | 1, hv | 2, hv | 3, hv | 4, hv | 5, hv | 6, hv => exact hv
    | i + 7, hv => simp at hv
theorem good_st (s : St) : s.good = (decide (s.ss.length ≤ 8) && [s.p, s.q].all Pl.good && s.ss.all Sh.good) := by
  simp [St.good]
/-- What Check answers. -/
def chk (s : St) : Int := if s.good then 0 else 4
theorem chk_few {s : St} (h : 8 < s.ss.length) : chk s = 4 := by
  unfold chk; rw [good_st, decide_eq_false (by omega)]; rfl
theorem chk_of {s : St} (h : s.ss.length ≤ 8) : chk s = if ([s.p, s.q].all Pl.good && s.ss.all Sh.good) = true then 0 else 4 := by
  unfold chk; rw [good_st, decide_eq_true h]; simp
set_option maxHeartbeats 1000000 in
set_option maxRecDepth 20000 in
theorem check_c (s : St) (ao : Option Addr) (cap : Nat) (w : World) (h : Shs w ao s.ss) (hf : s.fit) (ht : BTab w) :
    Calls Tryz.prog 90 #[sv s ao cap] w fun E w' => E = .returned (.int .i64 (chk s)) ∧ w.grownBy w' none := by
  by_cases h8 : 8 < s.ss.length
  · rw [chk_few h8]
    go_enter Tryz.func90, Tryz.ntmps90
    go_wp2
    go_ret
    exact ⟨rfl, grown_alloc _ _⟩
  · have hB := bk_made w s ao cap
    obtain ⟨_, _, hp, hq, _⟩ := hf
    have hP := pls_of hB hp hq
    have hT : BTab (w.alloc (.cells (stc s ao cap) 34)) := btab_grown ht (grown_alloc _ _) (by simp)
    have C0 := Lib.hid (withinPl (some ⟨w.heap.size, 2, none⟩) 2 [s.p, s.q] _ hP (by simp) hT)
    have HS := Lib.hid (Shs_grown h (grown_alloc w (.cells (stc s ao cap) 34)) (by simp))
    have HB := Lib.hid hB
    have HT := Lib.hid hT
    have HL := Lib.hid (show s.ss.length ≤ 100000 by omega)
    rw [chk_of (by omega)]
    clear hP hT hB ht h hp hq
    have C1 : Hid (∀ W : World, Shs W ao s.ss → BTab W → Calls Tryz.prog 137 #[.slice ao s.ss.length cap, .func (.func 138) #[] #[], .int .i64 7] W fun E w' => E = .returned (.bool (s.ss.all Sh.good)) ∧ W.grownBy w' none) :=
      fun W h1 h2 => withinSh ao cap s.ss W h1 HL.out h2
    generalize [s.p, s.q].all Pl.good = b0 at *
    generalize s.ss.all Sh.good = b1 at *
    go_enter Tryz.func90, Tryz.ntmps90
    go_wp2_with fail
    refine C0.out.mono ?_
    rintro E w1 ⟨rfl, hb1⟩
    cases b0
    · go_wp2
      go_ret
      exact ⟨rfl, (grown_alloc _ _).trans hb1⟩
    · have c16 := (bk_cells (bk_grown HB.out hb1 (by simp))).2.2.2.2.1
      have HB1 := Lib.hid hb1
      clear hb1
      go_wp2_with fail
      refine (C1.out _ (Shs_grown HS.out HB1.out (by simp)) (btab_grown HT.out HB1.out (by simp))).mono ?_
      rintro E w2 ⟨rfl, hb2⟩
      have HB2 := Lib.hid hb2
      clear hb2
      cases b1
      · go_wp2
        go_ret
        exact ⟨rfl, ((grown_alloc _ _).trans HB1.out).trans HB2.out⟩
      · go_wp2
        go_ret
        exact ⟨rfl, ((grown_alloc _ _).trans HB1.out).trans HB2.out⟩
end Go.Proofs.YtacgmadgkmcmoaaGreatDoor
/- What package state writes: players, shots, a state: one contract each. -/
namespace Go.Proofs.YtacgmadgkmcmoaaGreatDoor
open Go.RowKit
set_option linter.unusedVariables false

theorem u32_un32 {z : Int} (h : i32 z) : IntKind.u32.wrap z = (un32 z : Int) := by
  obtain ⟨h1, h2⟩ := h
  unfold un32
  simp [IntKind.wrap, IntKind.bits, IntKind.signed]
  omega
theorem u8_id {n : Nat} (h : n < 256) : IntKind.u8.wrap (n : Int) = (n : Int) := by
  simp [IntKind.wrap, IntKind.bits, IntKind.signed]; omega
def pes (l : List Pl) : List UInt8 := l.flatMap pe
theorem pes_len : ∀ (l : List Pl), (pes l).length = 19 * l.length
  | [] => rfl
  | a :: l => by
    have := pes_len l
    simp only [pes, List.flatMap_cons, List.length_append, pe_len, List.length_cons] at this ⊢
    omega
theorem flat_next {α : Type} (f : α → List UInt8) (l : List α) (k : Nat) (h : k < l.length) : (l.take (k + 1)).flatMap f = (l.take k).flatMap f ++ f (l[k]'h) := by
  rw [List.take_succ_eq_append_getElem h, List.flatMap_append]; simp only [List.flatMap_cons, List.flatMap_nil, List.append_nil]
theorem takeN_next (l : List Nat) (j : Nat) (h : j < l.length) : l.take (j + 1) = l.take j ++ [l.getD j 0] := by
  rw [List.take_succ_eq_append_getElem h]; simp [List.getD, List.getElem?_eq_getElem h]
theorem enM_next (l : List Nat) (j : Nat) (h : j < l.length) : enM eN 0 (l.take (j + 1)) = enM eN 0 (l.take j) ++ eN j (l.getD j 0) := by
  rw [takeN_next l j h, enM_snoc, List.length_take, Nat.min_eq_left (by omega), Nat.zero_add]
theorem enM_len : ∀ (l : List Nat) (i : Nat), (enM eN i l).length ≤ 4 * l.length
  | [], _ => by simp [enM]
  | a :: l, i => by
    have := enM_len l (i + 1)
    have h4 : wd i ≤ 4 := by unfold wd; split <;> omega
    simp only [enM, List.length_append, eN, le_length, List.length_cons]
    omega
theorem kept_cell {S : Nat → Prop} {w w' : World} {b o : Nat} {v : Value} (h : Kept S w w') (hb : S b) (hv : w.cell? ⟨b, o, none⟩ = some v) : w'.cell? ⟨b, o, none⟩ = some v :=
  (World.cell?_of_block (h.block b hb)).trans hv
theorem kept_cells {S : Nat → Prop} {w w' : World} {g : Nat} {t : TypeId} {cs : Array Value} (h : Kept S w w') (hb : S g) (hv : Cells w g t cs) : Cells w' g t cs := (h.block g hb).trans hv

theorem rawSh_at {p : Sh} (h : p.fit) {j : Nat} (hj : j < 6) :
    (j < 4 → IntKind.u32.wrap (p.nums.getD j 0) = (p.raw.getD j 0 : Int) ∧ p.raw.getD j 0 < 4294967296) ∧ (¬ j < 4 → IntKind.u8.wrap (p.nums.getD j 0) = (p.raw.getD j 0 : Int) ∧ p.raw.getD j 0 < 256) := by
  obtain ⟨h0, h1, h2, h3, h4, h5⟩ := h
  have : j = 0 ∨ j = 1 ∨ j = 2 ∨ j = 3 ∨ j = 4 ∨ j = 5 := by omega
  rcases this with rfl | rfl | rfl | rfl | rfl | rfl
  · exact ⟨fun _ => ⟨u32_un32 h0, un32_lt _⟩, fun h => absurd (by omega) h⟩
  · exact ⟨fun _ => ⟨u32_un32 h1, un32_lt _⟩, fun h => absurd (by omega) h⟩
  · exact ⟨fun _ => ⟨u32_un32 h2, un32_lt _⟩, fun h => absurd (by omega) h⟩
  · exact ⟨fun _ => ⟨u32_un32 h3, un32_lt _⟩, fun h => absurd (by omega) h⟩
  · exact ⟨fun h => absurd h (by omega), fun _ => ⟨u8_id h4, h4⟩⟩
  · exact ⟨fun h => absurd h (by omega), fun _ => ⟨u8_id h5, h5⟩⟩
set_option maxHeartbeats 1000000 in
set_option maxRecDepth 20000 in
theorem putSh (g : Nat) (S : Nat → Prop) (bs : List UInt8) (ao : Option Addr) (cap : Nat) (l : List Sh) (w : World) (h : Shs w ao l) (hS : 0 < l.length → ∀ a, ao = some a → S a.block) (hw : Ws w g S bs) (hl : l.length ≤ 1000) (hn : bs.length ≤ 1000000) :
    Calls Tryz.prog 146 #[.pointer (some ⟨g, 0, none⟩), .slice ao l.length cap, .func (.func 138) #[] #[]] w fun E w' => E = .returned (.tuple #[]) ∧ WsTo w g S (bs ++ hes l) w' := by
  have HBS := Lib.hid hn
  clear hn
  go_enter Tryz.func146, Tryz.ntmps146
  go_wp2
  go_loopw [12] (fun v wr => ∃ k : Nat, k ≤ l.length ∧ v = .int .i64 k ∧ WsTo w g S (bs ++ (l.take k).flatMap he) wr) (fun v _ => l.length - (intOf v).toNat)
  case atStart => exact ⟨0, by omega, rfl, by simpa using ws_to hw⟩
  case round =>
    obtain ⟨k, hk, rfl, hto⟩ := hrel
    by_cases hlt : k < l.length
    · obtain ⟨hfit, b, o, rfl, hc⟩ := h k hlt
      have hSb : S b := hS (by omega) _ rfl
      have hwk : ∀ {i : Nat} {v : Value}, w.cell? ⟨b, i, none⟩ = some v → wr.cell? ⟨b, i, none⟩ = some v := fun hv => kept_cell hto.2 hSb hv
      have c0 : wr.cell? ⟨b, o + k * 6, none⟩ = some (.int .i32 (l[k]'hlt).x) := hwk (hc 0 _ rfl)
      have c1 : wr.cell? ⟨b, o + k * 6 + 1, none⟩ = some (.int .i32 (l[k]'hlt).y) := hwk (hc 1 _ rfl)
      have c2 : wr.cell? ⟨b, o + k * 6 + 2, none⟩ = some (.int .i32 (l[k]'hlt).vx) := hwk (hc 2 _ rfl)
      have c3 : wr.cell? ⟨b, o + k * 6 + 3, none⟩ = some (.int .i32 (l[k]'hlt).vy) := hwk (hc 3 _ rfl)
      have c4 : wr.cell? ⟨b, o + k * 6 + 4, none⟩ = some (.int .u8 ((l[k]'hlt).o : Int)) := hwk (hc 4 _ rfl)
      have c5 : wr.cell? ⟨b, o + k * 6 + 5, none⟩ = some (.int .u8 ((l[k]'hlt).l : Int)) := hwk (hc 5 _ rfl)
      have HNX := Lib.hid (flat_next he l k hlt)
      have HF := Lib.hid hfit
      have HTO := Lib.hid hto
      have HLN : Hid ((bs ++ (l.take k).flatMap he).length ≤ 1100000) := by
        have h1 := hes_len (l.take k)
        have h2 := HBS.out
        simp only [hes, List.length_take] at h1
        show _ ≤ _
        rw [List.length_append, h1]
        omega
      clear hc hto h hfit hwk
      generalize hs : (l[k]'hlt) = s at *
      clear hs
      generalize hbb : bs ++ (l.take k).flatMap he = bb at *
      have HBB := Lib.hid hbb
      clear hbb
      go_wp2_with fail
      refine (ofShot_c s _ HF.out).mono ?_
      rintro E w1 ⟨g1, rfl, hgs, hgc, hgb⟩
      have hws : Ws w1 g (fun k => S k ∨ k = g1) bb := ws_more HTO.out.1 ((grown_alloc _ _).trans hgb) (fun i hi => by
        rcases hi with hi | rfl
        · exact .inl hi
        · exact .inr ⟨by simp at hgs; omega, hgc.lt⟩)
      have hkp : Kept S w w1 := HTO.out.2.trans (kept_grown ((grown_alloc _ _).trans hgb) HTO.out.1.2.1 (fun _ _ => by simp))
      have HW := Lib.hid hws
      have HK := Lib.hid hkp
      have HC := Lib.hid hgc
      clear hgs hgc hgb hws hkp HTO
      go_wp2
      go_loopw [20] (fun v wr => ∃ j : Nat, j ≤ 6 ∧ v = .int .i64 j ∧ Hid (Ws wr g (fun k => S k ∨ k = g1) (bb ++ enM eN 0 (s.raw.take j))) ∧ Hid (Kept S w wr) ∧ Hid (Cells wr g1 21 (i32v s.nums))) (fun v _ => 6 - (intOf v).toNat)
      case atStart => exact ⟨0, by omega, rfl, by simpa [enM] using HW, HK, HC⟩
      case round =>
        obtain ⟨j, hj, rfl, HW2, HK2, HC2⟩ := hrel
        by_cases hlt2 : j < 6
        · have hji : (j : Int) < 6 := by omega
          have n0 : wr.cell? ⟨g1, j, none⟩ = some (.int .i32 (s.nums.getD j 0)) := by rw [HC2.out.cell, i32v_at _ _ hlt2]
          have hra := rawSh_at HF.out hlt2
          have HE := Lib.hid (enM_next s.raw j hlt2)
          have HLB : Hid ((bb ++ enM eN 0 (s.raw.take j)).length ≤ 1099511627776) := by
            have h1 := enM_len (s.raw.take j) 0
            have h2 := HLN.out
            simp only [List.length_take] at h1
            show _ ≤ _
            rw [List.length_append]
            omega
          generalize s.nums.getD j 0 = z at *
          by_cases h4 : j < 4
          · obtain ⟨r1, r2⟩ := hra.1 h4
            have hw4 : eN j (s.raw.getD j 0) = le 4 (s.raw.getD j 0) := by unfold eN wd; rw [if_pos h4]
            rw [hw4] at HE
            generalize s.raw.getD j 0 = n at *
            have R1 := Lib.hid r1
            have R2 := Lib.hid r2
            clear r1 r2 hra hw4
            go_wp2_with fail
            refine (wsI32 g n _ z _ _ HW2.out HLB.out R2.out R1.out).mono ?_
            rintro E w2 ⟨rfl, hw3⟩
            have HW3 := Lib.hid hw3
            clear hw3
            go_wp2
            go_roundw
            case rel => exact ⟨j + 1, by omega, by go_num, by rw [HE.out, ← List.append_assoc]; exact HW3.out.1, HK2.out.trans (HW3.out.2.less (fun i hi => .inl hi)), kept_cells HW3.out.2 (.inr rfl) HC2.out⟩
            case measure => simp [intOf]; omega
          · obtain ⟨r1, r2⟩ := hra.2 h4
            have hw4 : eN j (s.raw.getD j 0) = le 1 (s.raw.getD j 0) := by unfold eN wd; rw [if_neg h4]
            rw [hw4] at HE
            generalize s.raw.getD j 0 = n at *
            have R2 := Lib.hid r2
            clear r2 hra hw4
            go_wp2_with fail
            refine (wsU8 g n _ _ _ HW2.out HLB.out R2.out).mono ?_
            rintro E w2 ⟨rfl, hw3⟩
            have HW3 := Lib.hid hw3
            clear hw3
            go_wp2
            go_roundw
            case rel => exact ⟨j + 1, by omega, by go_num, by rw [HE.out, ← List.append_assoc]; exact HW3.out.1, HK2.out.trans (HW3.out.2.less (fun i hi => .inl hi)), kept_cells HW3.out.2 (.inr rfl) HC2.out⟩
            case measure => simp [intOf]; omega
        · obtain rfl : j = 6 := by omega
          go_wp2
          go_roundw
          case rel =>
            refine ⟨k + 1, by omega, by go_num, ?_, HK2.out⟩
            rw [HNX.out, ← List.append_assoc, HBB.out]
            exact ws_less (T := S) HW2.out (fun i hi => .inl hi)
          case measure => simp [intOf]; omega
    · have HG : Hid (WsTo w g S (bs ++ hes l) wr) := by
        have e : k = l.length := by omega
        rw [e, List.take_length] at hto
        exact hto
      clear hto h
      go_wp2
      go_end0
      exact ⟨rfl, HG.out⟩

theorem rawPl_at {p : Pl} (h : p.fit) {j : Nat} (hj : j < 7) :
    (j < 4 → IntKind.u32.wrap (p.nums.getD j 0) = (p.raw.getD j 0 : Int) ∧ p.raw.getD j 0 < 4294967296) ∧ (¬ j < 4 → IntKind.u8.wrap (p.nums.getD j 0) = (p.raw.getD j 0 : Int) ∧ p.raw.getD j 0 < 256) := by
  obtain ⟨h0, h1, h2, h3, h4, h5, h6⟩ := h
  have : j = 0 ∨ j = 1 ∨ j = 2 ∨ j = 3 ∨ j = 4 ∨ j = 5 ∨ j = 6 := by omega
  rcases this with rfl | rfl | rfl | rfl | rfl | rfl | rfl
  · exact ⟨fun _ => ⟨u32_un32 h0, un32_lt _⟩, fun h => absurd (by omega) h⟩
  · exact ⟨fun _ => ⟨u32_un32 h1, un32_lt _⟩, fun h => absurd (by omega) h⟩
  · exact ⟨fun _ => ⟨u32_un32 h2, un32_lt _⟩, fun h => absurd (by omega) h⟩
  · exact ⟨fun _ => ⟨u32_un32 h3, un32_lt _⟩, fun h => absurd (by omega) h⟩
  · exact ⟨fun h => absurd h (by omega), fun _ => ⟨u8_id h4, h4⟩⟩
  · exact ⟨fun h => absurd h (by omega), fun _ => ⟨u8_id h5, h5⟩⟩
  · exact ⟨fun h => absurd h (by omega), fun _ => ⟨u8_id h6, h6⟩⟩
set_option maxHeartbeats 1000000 in
set_option maxRecDepth 20000 in
theorem putPl (g : Nat) (S : Nat → Prop) (bs : List UInt8) (ao : Option Addr) (cap : Nat) (l : List Pl) (w : World) (h : Pls w ao l) (hS : 0 < l.length → ∀ a, ao = some a → S a.block) (hw : Ws w g S bs) (hl : l.length ≤ 1000) (hn : bs.length ≤ 1000000) :
    Calls Tryz.prog 144 #[.pointer (some ⟨g, 0, none⟩), .slice ao l.length cap, .func (.func 136) #[] #[]] w fun E w' => E = .returned (.tuple #[]) ∧ WsTo w g S (bs ++ pes l) w' := by
  have HBS := Lib.hid hn
  clear hn
  go_enter Tryz.func144, Tryz.ntmps144
  go_wp2
  go_loopw [12] (fun v wr => ∃ k : Nat, k ≤ l.length ∧ v = .int .i64 k ∧ WsTo w g S (bs ++ (l.take k).flatMap pe) wr) (fun v _ => l.length - (intOf v).toNat)
  case atStart => exact ⟨0, by omega, rfl, by simpa using ws_to hw⟩
  case round =>
    obtain ⟨k, hk, rfl, hto⟩ := hrel
    by_cases hlt : k < l.length
    · obtain ⟨hfit, b, o, rfl, hc⟩ := h k hlt
      have hSb : S b := hS (by omega) _ rfl
      have hwk : ∀ {i : Nat} {v : Value}, w.cell? ⟨b, i, none⟩ = some v → wr.cell? ⟨b, i, none⟩ = some v := fun hv => kept_cell hto.2 hSb hv
      have c0 : wr.cell? ⟨b, o + k * 7, none⟩ = some (.int .i32 (l[k]'hlt).x) := hwk (hc 0 _ rfl)
      have c1 : wr.cell? ⟨b, o + k * 7 + 1, none⟩ = some (.int .i32 (l[k]'hlt).y) := hwk (hc 1 _ rfl)
      have c2 : wr.cell? ⟨b, o + k * 7 + 2, none⟩ = some (.int .i32 (l[k]'hlt).vx) := hwk (hc 2 _ rfl)
      have c3 : wr.cell? ⟨b, o + k * 7 + 3, none⟩ = some (.int .i32 (l[k]'hlt).vy) := hwk (hc 3 _ rfl)
      have c4 : wr.cell? ⟨b, o + k * 7 + 4, none⟩ = some (.int .u8 ((l[k]'hlt).h : Int)) := hwk (hc 4 _ rfl)
      have c5 : wr.cell? ⟨b, o + k * 7 + 5, none⟩ = some (.int .u8 ((l[k]'hlt).c : Int)) := hwk (hc 5 _ rfl)
      have c6 : wr.cell? ⟨b, o + k * 7 + 6, none⟩ = some (.int .u8 ((l[k]'hlt).f : Int)) := hwk (hc 6 _ rfl)
      have HNX := Lib.hid (flat_next pe l k hlt)
      have HF := Lib.hid hfit
      have HTO := Lib.hid hto
      have HLN : Hid ((bs ++ (l.take k).flatMap pe).length ≤ 1100000) := by
        have h1 := pes_len (l.take k)
        have h2 := HBS.out
        simp only [pes, List.length_take] at h1
        show _ ≤ _
        rw [List.length_append, h1]
        omega
      clear hc hto h hfit hwk
      generalize hs : (l[k]'hlt) = s at *
      clear hs
      generalize hbb : bs ++ (l.take k).flatMap pe = bb at *
      have HBB := Lib.hid hbb
      clear hbb
      go_wp2_with fail
      refine (ofPlayer_c s _ HF.out).mono ?_
      rintro E w1 ⟨g1, rfl, hgs, hgc, hgb⟩
      have hws : Ws w1 g (fun k => S k ∨ k = g1) bb := ws_more HTO.out.1 ((grown_alloc _ _).trans hgb) (fun i hi => by
        rcases hi with hi | rfl
        · exact .inl hi
        · exact .inr ⟨by simp at hgs; omega, hgc.lt⟩)
      have hkp : Kept S w w1 := HTO.out.2.trans (kept_grown ((grown_alloc _ _).trans hgb) HTO.out.1.2.1 (fun _ _ => by simp))
      have HW := Lib.hid hws
      have HK := Lib.hid hkp
      have HC := Lib.hid hgc
      clear hgs hgc hgb hws hkp HTO
      go_wp2
      go_loopw [20] (fun v wr => ∃ j : Nat, j ≤ 7 ∧ v = .int .i64 j ∧ Hid (Ws wr g (fun k => S k ∨ k = g1) (bb ++ enM eN 0 (s.raw.take j))) ∧ Hid (Kept S w wr) ∧ Hid (Cells wr g1 21 (i32v s.nums))) (fun v _ => 7 - (intOf v).toNat)
      case atStart => exact ⟨0, by omega, rfl, by simpa [enM] using HW, HK, HC⟩
      case round =>
        obtain ⟨j, hj, rfl, HW2, HK2, HC2⟩ := hrel
        by_cases hlt2 : j < 7
        · have hji : (j : Int) < 7 := by omega
          have n0 : wr.cell? ⟨g1, j, none⟩ = some (.int .i32 (s.nums.getD j 0)) := by rw [HC2.out.cell, i32v_at _ _ hlt2]
          have hra := rawPl_at HF.out hlt2
          have HE := Lib.hid (enM_next s.raw j hlt2)
          have HLB : Hid ((bb ++ enM eN 0 (s.raw.take j)).length ≤ 1099511627776) := by
            have h1 := enM_len (s.raw.take j) 0
            have h2 := HLN.out
            simp only [List.length_take] at h1
            show _ ≤ _
            rw [List.length_append]
            omega
          generalize s.nums.getD j 0 = z at *
          by_cases h4 : j < 4
          · obtain ⟨r1, r2⟩ := hra.1 h4
            have hw4 : eN j (s.raw.getD j 0) = le 4 (s.raw.getD j 0) := by unfold eN wd; rw [if_pos h4]
            rw [hw4] at HE
            generalize s.raw.getD j 0 = n at *
            have R1 := Lib.hid r1
            have R2 := Lib.hid r2
            clear r1 r2 hra hw4
            go_wp2_with fail
            refine (wsI32 g n _ z _ _ HW2.out HLB.out R2.out R1.out).mono ?_
            rintro E w2 ⟨rfl, hw3⟩
            have HW3 := Lib.hid hw3
            clear hw3
            go_wp2
            go_roundw
            case rel => exact ⟨j + 1, by omega, by go_num, by rw [HE.out, ← List.append_assoc]; exact HW3.out.1, HK2.out.trans (HW3.out.2.less (fun i hi => .inl hi)), kept_cells HW3.out.2 (.inr rfl) HC2.out⟩
            case measure => simp [intOf]; omega
          · obtain ⟨r1, r2⟩ := hra.2 h4
            have hw4 : eN j (s.raw.getD j 0) = le 1 (s.raw.getD j 0) := by unfold eN wd; rw [if_neg h4]
            rw [hw4] at HE
            generalize s.raw.getD j 0 = n at *
            have R2 := Lib.hid r2
            clear r2 hra hw4
            go_wp2_with fail
            refine (wsU8 g n _ _ _ HW2.out HLB.out R2.out).mono ?_
            rintro E w2 ⟨rfl, hw3⟩
            have HW3 := Lib.hid hw3
            clear hw3
            go_wp2
            go_roundw
            case rel => exact ⟨j + 1, by omega, by go_num, by rw [HE.out, ← List.append_assoc]; exact HW3.out.1, HK2.out.trans (HW3.out.2.less (fun i hi => .inl hi)), kept_cells HW3.out.2 (.inr rfl) HC2.out⟩
            case measure => simp [intOf]; omega
        · obtain rfl : j = 7 := by omega
          go_wp2
          go_roundw
          case rel =>
            refine ⟨k + 1, by omega, by go_num, ?_, HK2.out⟩
            rw [HNX.out, ← List.append_assoc, HBB.out]
            exact ws_less (T := S) HW2.out (fun i hi => .inl hi)
          case measure => simp [intOf]; omega
    · have HG : Hid (WsTo w g S (bs ++ pes l) wr) := by
        have e : k = l.length := by omega
        rw [e, List.take_length] at hto
        exact hto
      clear hto h
      go_wp2
      go_end0
      exact ⟨rfl, HG.out⟩
end Go.Proofs.YtacgmadgkmcmoaaGreatDoor
/- Put: the bytes of a state: its contract. -/
namespace Go.Proofs.YtacgmadgkmcmoaaGreatDoor
open Go.RowKit
set_option linter.unusedVariables false

theorem kept_to_grown {w1 W0 W' : World} (h : w1.grownBy W0 none) (k : Kept (fun i => i < w1.heap.size) W0 W') : w1.grownBy W' none :=
  ⟨k.os.trans h.os, k.tape.trans h.tape, k.output.trans h.output, Nat.le_trans h.size k.size, fun i hi hn => (k.block i hi).trans (h.block i hi hn)⟩
attribute [local go_sem ↓] loadAt_state
attribute [local go_sem] run_loadState rowOf_new rowOf_old rowOf_drew rowOf_drewN
/-- What Put answers. -/
def sput (s : St) : List UInt8 := if s.good then ste s else []
theorem sput_yes {s : St} (h : s.good = true) : sput s = ste s := if_pos h
theorem sput_no {s : St} (h : s.good = false) : sput s = [] := if_neg (by rw [h]; decide)
theorem chk_yes {s : St} (h : s.good = true) : chk s = 0 := if_pos h
theorem chk_no {s : St} (h : s.good = false) : chk s = 4 := if_neg (by rw [h]; decide)
theorem idx0 (a b : Value) (w : World) : (Instr.index 32 (.agg #[a, b]) (.int .i64 0)).run Tryz.prog w = .ok a w := by
  have h1 : (Tryz.prog.info? 23).map (·.size) = some 1 := by kernel_rfl
  cases hq : Tryz.prog.info? 23 with
  | none => rw [hq] at h1; simp at h1
  | some i =>
    have hs : i.size = 1 := by rw [hq] at h1; simpa using h1
    simp [Instr.index, run_underlying Tryz.underlying32, go_sem, sizeOf, typeInfo, hq, hs]
theorem idx1 (a b : Value) (w : World) : (Instr.index 32 (.agg #[a, b]) (.int .i64 1)).run Tryz.prog w = .ok b w := by
  have h1 : (Tryz.prog.info? 23).map (·.size) = some 1 := by kernel_rfl
  cases hq : Tryz.prog.info? 23 with
  | none => rw [hq] at h1; simp at h1
  | some i =>
    have hs : i.size = 1 := by rw [hq] at h1; simpa using h1
    simp [Instr.index, run_underlying Tryz.underlying32, go_sem, sizeOf, typeInfo, hq, hs]
attribute [local go_sem] idx0 idx1
def two (s : St) (k : Nat) : List UInt8 := if k = 0 then [] else if k = 1 then le 2 s.s0 else le 2 s.s0 ++ le 2 s.s1
set_option maxHeartbeats 1000000 in
set_option maxRecDepth 20000 in
theorem put_c (s : St) (ao : Option Addr) (cap : Nat) (w : World) (h : Shs w ao s.ss) (hf : s.fit) (ht : BTab w) :
    Calls Tryz.prog 95 #[sv s ao cap] w fun E w' => E = .returned (.string (str (sput s))) ∧ w.grownBy w' none := by
  have hB := bk_made w s ao cap
  have hC := check_c s ao cap (w.alloc (.cells (stc s ao cap) 34)) (Shs_grown h (grown_alloc _ _) (by simp)) hf (btab_grown ht (grown_alloc _ _) (by simp))
  cases hg : s.good
  · have HX := Lib.hid (sput_no hg)
    rw [chk_no hg] at hC
    clear hg hB h ht
    go_enter Tryz.func95, Tryz.ntmps95
    go_wp2_with fail
    refine hC.mono ?_
    rintro E w1 ⟨rfl, hb1⟩
    go_wp2
    go_ret
    exact ⟨by rw [HX.out]; rfl, (grown_alloc _ _).trans hb1⟩
  · have HX := Lib.hid (sput_yes hg)
    have h8 := good_few hg
    rw [chk_yes hg] at hC
    have HF := Lib.hid hf
    have HS := Lib.hid h
    have HB := Lib.hid hB
    have HL2 := Lib.hid (hes_len s.ss)
    have HV := Lib.hid (vr_len s.ss.length)
    have hl64 : IntKind.u64.wrap (s.ss.length : Int) = (s.ss.length : Int) := u64_id _ (by omega) (by omega)
    clear hg hB h ht hf
    go_enter Tryz.func95, Tryz.ntmps95
    go_wp2_with fail
    refine hC.mono ?_
    rintro E w1 ⟨rfl, hb1⟩
    have hgr : w.grownBy w1 none := (grown_alloc _ _).trans hb1
    have hB1 := bk_grown HB.out hb1 (by simp)
    have hgl : w.heap.size < w1.heap.size := Cells.lt hB1
    have hw0 := ws_new w1 (fun k => k < w1.heap.size) (fun _ h => h)
    have hB2 : Bk (w1.alloc (.cells #[.slice none 0 0] 153)) w.heap.size s ao cap := bk_grown hB1 (grown_alloc _ _) (by simp)
    obtain ⟨c0, c1, ⟨c2, c3, c4, c5, c6, c7, c8⟩, ⟨c9, c10, c11, c12, c13, c14, c15⟩, c16, c17, c18⟩ := bk_cells hB1
    have HG := Lib.hid hgr
    have HB2 := Lib.hid hB2
    have HW0 := Lib.hid hw0
    have HB1 := Lib.hid hB1
    clear hb1 hgr hB1 hB2 hw0
    go_wp2_with fail
    refine (wsU64 w1.heap.size s.fr _ [] _ HW0.out (by simp) HF.out.1).mono ?_
    rintro E w2 ⟨rfl, hw2⟩
    have HW2 := Lib.hid hw2
    have d1 := kept_cell (b := w.heap.size) (o := 1) hw2.2 hgl (HB2.out.of 1 _ rfl)
    clear hw2
    go_wp2_with fail
    refine (wsU64 w1.heap.size s.sd _ _ _ HW2.out.1 (by simp [le_length]) HF.out.2.1).mono ?_
    rintro E w3 ⟨rfl, hw3⟩
    have HW3 := Lib.hid (wsTo_trans HW2.out hw3)
    clear hw3 d1
    go_wp2_with fail
    refine (putPl w1.heap.size _ _ (some ⟨w.heap.size, 2, none⟩) 2 [s.p, s.q] _ (pls_of (kept_cells HW3.out.2 hgl HB2.out) HF.out.2.2.1 HF.out.2.2.2.1) (fun _ a e => by cases e; exact hgl) HW3.out.1 (by simp) (by simp [le_length])).mono ?_
    rintro E w4 ⟨rfl, hw4⟩
    have HW4 := Lib.hid (wsTo_trans HW3.out hw4)
    have d16 := kept_cell (b := w.heap.size) (o := 16) HW4.out.2 hgl (HB2.out.of 16 _ rfl)
    clear hw4
    go_wp2_with fail
    refine (wsVar w1.heap.size s.ss.length _ _ _ HW4.out.1 (by simp [le_length, pes_len]) (by omega)).mono ?_
    rintro E w5 ⟨rfl, hw5⟩
    have HW5 := Lib.hid (wsTo_trans HW4.out hw5)
    have e16 := kept_cell (b := w.heap.size) (o := 16) HW5.out.2 hgl (HB2.out.of 16 _ rfl)
    clear hw5 d16
    have hsw : Shs w5 ao s.ss := fun k hk => by
      obtain ⟨hfit, b, o, e, hc⟩ := HS.out k hk
      refine ⟨hfit, b, o, e, fun i v hv => ?_⟩
      have h1 := hc i v hv
      have hlt := World.block_lt_of_cell? w _ h1
      have h2 := go_at (HG.out.trans (grown_alloc w1 (.cells #[.slice none 0 0] 153))) h1
      exact kept_cell HW5.out.2 (Nat.lt_trans hlt hgl) h2
    go_wp2_with fail
    refine (putSh w1.heap.size _ _ ao cap s.ss _ hsw (fun h0 a e => by
      obtain ⟨_, b, o, e', hc⟩ := HS.out 0 h0
      have hlt := World.block_lt_of_cell? w _ (hc 0 _ rfl)
      rw [e] at e'
      cases e'
      exact Nat.lt_trans hlt hgl) HW5.out.1 (by omega) (by
        have h1 := HV.out.2
        simp [le_length, pes_len]; omega)).mono ?_
    rintro E w6 ⟨rfl, hw6⟩
    have HW6 := Lib.hid (wsTo_trans HW5.out hw6)
    have e17 := kept_cell (b := w.heap.size) (o := 17) HW6.out.2 hgl (HB2.out.of 17 _ rfl)
    have e18 := kept_cell (b := w.heap.size) (o := 18) HW6.out.2 hgl (HB2.out.of 18 _ rfl)
    clear hw6 e16 hsw
    have HSC : Hid (∀ bb : List UInt8, bb ++ two s 1 = bb ++ two s 0 ++ le 2 s.s0 ∧ bb ++ two s 2 = bb ++ two s 1 ++ le 2 s.s1) := fun bb => by simp [two]
    have HLB : Hid (([] ++ le 8 s.fr ++ le 8 s.sd ++ pes [s.p, s.q] ++ vr s.ss.length ++ hes s.ss).length ≤ 1000000) := by
      have h1 := HV.out.2
      have h2 := HL2.out
      show _ ≤ _
      simp [le_length, pes_len]; omega
    have HST : Hid (ste s = [] ++ le 8 s.fr ++ le 8 s.sd ++ pes [s.p, s.q] ++ vr s.ss.length ++ hes s.ss ++ two s 2) := by
      show _ = _
      simp [ste, two, pes]
    generalize [] ++ le 8 s.fr ++ le 8 s.sd ++ pes [s.p, s.q] ++ vr s.ss.length ++ hes s.ss = bb at *
    go_wp2
    go_loopw [28] (fun v wr => ∃ k : Nat, k ≤ 2 ∧ v = .int .i64 k ∧ WsTo (w1.alloc (.cells #[.slice none 0 0] 153)) w1.heap.size (fun k => k < w1.heap.size) (bb ++ two s k) wr) (fun v _ => 2 - (intOf v).toNat)
    case atStart => exact ⟨0, by omega, rfl, by simpa [two] using HW6.out⟩
    case round =>
      obtain ⟨k, hk, rfl, hto⟩ := hrel
      have hk3 : k = 0 ∨ k = 1 ∨ k = 2 := by omega
      have HTO := Lib.hid hto
      have HLT : Hid ((bb ++ two s k).length ≤ 1099511627776) := by
        have h1 := HLB.out
        have h2 : (two s k).length ≤ 4 := by unfold two; (repeat' split) <;> simp [le_length]
        show _ ≤ _
        rw [List.length_append]; omega
      clear hto
      rcases hk3 with rfl | rfl | rfl
      · go_wp2_with fail
        refine (wsU16 w1.heap.size s.s0 _ _ _ HTO.out.1 HLT.out HF.out.2.2.2.2.2.1).mono ?_
        rintro E w7 ⟨rfl, hw7⟩
        have HW7 := Lib.hid (wsTo_trans HTO.out hw7)
        clear hw7
        go_wp2
        go_roundw
        case rel => exact ⟨1, by omega, by go_num, by rw [(HSC.out bb).1]; exact HW7.out⟩
        case measure => simp [intOf]
      · go_wp2_with fail
        refine (wsU16 w1.heap.size s.s1 _ _ _ HTO.out.1 HLT.out HF.out.2.2.2.2.2.2).mono ?_
        rintro E w7 ⟨rfl, hw7⟩
        have HW7 := Lib.hid (wsTo_trans HTO.out hw7)
        clear hw7
        go_wp2
        go_roundw
        case rel => exact ⟨2, by omega, by go_num, by rw [(HSC.out bb).2]; exact HW7.out⟩
        case measure => simp [intOf]
      · go_wp2_with fail
        refine (wsBytes w1.heap.size _ _ _ HTO.out.1).mono ?_
        rintro E w7 ⟨rfl, rfl⟩
        go_wp2
        go_ret
        exact ⟨by rw [HX.out, HST.out]; rfl, HG.out.trans (kept_to_grown (grown_alloc _ _) HTO.out.2)⟩
end Go.Proofs.YtacgmadgkmcmoaaGreatDoor
