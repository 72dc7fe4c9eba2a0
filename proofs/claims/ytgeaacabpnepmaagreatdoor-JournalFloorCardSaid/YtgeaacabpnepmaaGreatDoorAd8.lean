/- Texts of the walk. -/
import Derived.Test.YtgeaacabpnepmaaGreatDoorAa8
import Derived.OrdersHeld
import Derived.StillTail
import Derived.RegionTactic
import Derived.Test.YtgeaacabpnepmaaGreatDoorRows
import Derived.Laws.Rows
import Derived.BigQuiet
/- Texts of elder layers, one behind the other. -/
/- A region that asks the tape for its order, whose last operation writes a cell that the region reads: what is asked of the world (S) is asked only where something is still to come up. Nothing of the program. -/
namespace Go.Proofs.YtgeaacabpnepmaaGreatDoor
open Go.RowKit
set_option linter.unusedVariables false

section
variable {P : Program} {ops : Array Oper} {Q : Exit → Act → World → Prop} {md : Region.Mode} {S : World → Prop}
def wpTill (P : Program) (md : Region.Mode) (ops : Array Oper) (Q : Exit → Act → World → Prop) (S : World → Prop) : Nat → Array Bool → Act → World → Prop
  | 0, listed, a, w => Region.ready md ops listed = [] ∧ Q .normal a w
  | n + 1, listed, a, w =>
    (Region.ready md ops listed = [] → Q .normal a w) ∧ (Region.ready md ops listed ≠ [] → S w) ∧
      ∀ i, i ∈ Region.ready md ops listed → wpOp P ops Q i (fun a' w' => wpTill P md ops Q S n (listed.setIfInBounds i true) a' w') a w
theorem wpTill_any : ∀ (n : Nat) (listed : Array Bool) (a : Act) (w : World), wpTill P md ops Q S n listed a w → wpAny P md ops Q n listed a w
  | 0, _, _, _, h => h
  | n + 1, _, _, _, h => ⟨h.1, fun i hi => wpOp_mono (fun a' w' k => wpTill_any n _ a' w' k) (h.2.2 i hi)⟩
theorem wp_region_till {id : Nat} {a : Act} {w : World} (hm : P.follows .mixedOrders = true)
    (h : wpTill P .any ops Q S ops.size (Array.replicate ops.size false) a w.drew) : (Code.region id ops true).wp P Q a w :=
  wp_region_any hm (wpTill_any _ _ _ _ h)
theorem wpTill_done {n : Nat} {listed : Array Bool} {a : Act} {w : World} (hr : Region.ready md ops listed = []) (h : Q .normal a w) : wpTill P md ops Q S n listed a w := by
  cases n with
  | zero => exact ⟨hr, h⟩
  | succ n => exact ⟨fun _ => h, fun k => absurd hr k, fun i hi => by rw [hr] at hi; cases hi⟩
theorem wpTill_run {i n : Nat} {o : Oper} {listed : Array Bool} {a : Act} {w : World} (hr : Region.ready md ops listed = [i]) (ho : ops[i]? = some o) (hS : S w)
    (h : ∀ K' : Act → World → Prop, (∀ a' w', wpTill P md ops Q S n (listed.setIfInBounds i true) a' w' → K' a' w') → if Region.wanted o (yielded ops a.tmps) = true then Oper.wp P o a w K' Q else K' (a.put o.dst undef) w) :
    wpTill P md ops Q S (n + 1) listed a w :=
  ⟨fun k => (by rw [hr] at k; cases k), fun _ => hS, fun j hj => by
    rw [hr, List.mem_singleton] at hj
    subst hj
    exact wpOp_step ho h⟩
def orderedB (md : Region.Mode) (ops : Array Oper) : Bool :=
  (List.range ops.size).all fun j => match ops[j]? with
    | some o => o.after.all fun e => !Region.binds md e || decide (e.on < j)
    | none => true
theorem ordered_spec (h : orderedB md ops = true) {j : Nat} {o : Oper} (hj : ops[j]? = some o) {e : Edge} (he : e ∈ o.after) (hb : Region.binds md e = true) : e.on < j := by
  have hlt : j < ops.size := (Array.getElem?_eq_some_iff.1 hj).1
  have h1 := List.all_eq_true.1 h j (List.mem_range.2 hlt)
  simp only [hj] at h1
  have h2 := Array.all_eq_true_iff_forall_mem.1 h1 e he
  simpa [hb] using h2
theorem ready_some (h : orderedB md ops = true) {listed : Array Bool} (hz : listed.size = ops.size) : ∀ (k : Nat), k < ops.size → listed.getD k true = false → Region.ready md ops listed ≠ [] := by
  intro k
  induction k using Nat.strongRecOn with
  | _ k ih =>
    intro hk hu
    obtain ⟨o, ho⟩ : ∃ o, ops[k]? = some o := ⟨_, Array.getElem?_eq_getElem hk⟩
    by_cases hall : ∀ e ∈ o.after, Region.binds md e = true → listed.getD e.on false = true
    · intro h0
      have : k ∈ Region.ready md ops listed := mem_ready.2 ⟨hu, o, ho, hall⟩
      rw [h0] at this
      cases this
    · obtain ⟨e, hne⟩ := Classical.not_forall.1 hall
      obtain ⟨he, hne⟩ := Classical.not_imp.1 hne
      obtain ⟨hb, hf⟩ := Classical.not_imp.1 hne
      have hlt := ordered_spec h ho he hb
      have h2 : listed.getD e.on false = false := by simpa using hf
      exact ih e.on hlt (by omega) (getD_in (by omega) h2)
def takeB (md : Region.Mode) (ops : Array Oper) (listed : Array Bool) (i : Nat) : Bool :=
  Region.noSelect ops && orderedB md ops && decide (listed.size = ops.size) && (Region.free md ops listed i && (Region.ready md ops listed).contains i) &&
    (List.range ops.size).any fun k => Region.waitsFor md ops k i && !listed.getD k true
theorem waits_not_ready {k i : Nat} {listed : Array Bool} (hw : Region.waitsFor md ops k i = true) (hi : listed.getD i true = false) : k ∉ Region.ready md ops listed := fun hk => by
  obtain ⟨o, ho, e, he, hb, rfl⟩ := Region.waitsFor_spec hw
  obtain ⟨_, o', ho', hall⟩ := mem_ready.1 hk
  obtain rfl : o = o' := Option.some.inj (ho.symm.trans ho')
  have := hall e he hb
  rw [getD_both hi] at this
  cases this
theorem take_first {i k : Nat} {oi : Oper} {v : Value} (hi : ops[i]? = some oi) (hsel : Region.noSelect ops = true) (hord : orderedB md ops = true)
    (hQ : ∀ c a w, Q (.panic c) (a.put oi.dst v) w → Q (.panic c) a w) (hwk : Region.waitsFor md ops k i = true) (hki : k ≠ i) (hks : k < ops.size) :
    ∀ (n : Nat) (listed : Array Bool) (a : Act) (w : World), listed.size = ops.size → listed.getD k true = false →
      (∀ j oj, ops[j]? = some oj → j ≠ i → listed.getD j true = false → (∀ e ∈ oj.after, Region.binds md e = true → e.on ≠ i) → oi.apart ops oj = true) →
      i ∈ Region.ready md ops listed → YieldsIf P ops S oi v a → S w →
      wpTill P md ops Q S n (listed.setIfInBounds i true) (a.put oi.dst v) w → wpTill P md ops Q S (n + 1) listed a w
  | n, listed, a, w, hz, hku, hfree, hr, hy, hS, H => by
    have hiu := (mem_ready.1 hr).1
    refine ⟨fun h0 => (by rw [h0] at hr; cases hr), fun _ => hS, fun j hj => ?_⟩
    by_cases hji : j = i
    · subst hji
      exact hy.wpOp hi hS H
    · have hjr := ready_mono hj hji
      have hjk : j ≠ k := fun e => waits_not_ready hwk hiu (e ▸ hj)
      cases n with
      | zero => rw [H.1] at hjr; cases hjr
      | succ n =>
        obtain ⟨hju, oj, hoj, hall⟩ := mem_ready.1 hj
        have hap := hfree j oj hoj hji hju (fun e he hb heq => by
          have := hall e he hb
          rw [heq, getD_both hiu] at this
          cases this)
        have h2 := wpOp_putIf (S := S) hoj hap (fun cs b => Region.noSelect_spec hsel i oi cs b hi) (fun cs b => Region.noSelect_spec hsel j oj cs b hoj) hQ hy (H.2.2 j hjr)
        have hzj : (listed.setIfInBounds j true).size = ops.size := by simpa using hz
        have hkj : (listed.setIfInBounds j true).getD k true = false := by rw [getD_set_ne true hjk]; exact hku
        refine wpOp_mono (fun a' w' h3 => ?_) h2
        have h4 := h3.2
        rw [Array.setIfInBounds_comm _ _ (Ne.symm hji)] at h4
        have hkz : ((listed.setIfInBounds j true).setIfInBounds i true).getD k true = false := by rw [getD_set_ne true (Ne.symm hki)]; exact hkj
        have hsome := ready_some hord (listed := (listed.setIfInBounds j true).setIfInBounds i true) (by simpa using hz) k hks hkz
        have hS' : S w' := by
          cases n with
          | zero => exact absurd h4.1 hsome
          | succ n => exact h4.2.1 hsome
        refine take_first hi hsel hord hQ hwk hki hks n _ a' w' hzj hkj (fun l ol hl hli hlu hno => hfree l ol hl hli ?_ hno) (ready_mono hr (Ne.symm hji)) h3.1 hS' h4
        by_cases hjl : j = l
        · subst hjl; exact hju
        · rw [getD_set_ne true hjl] at hlu; exact hlu
theorem wpTill_take {i n : Nat} {oi : Oper} {v : Value} {listed : Array Bool} {a : Act} {w : World} (hi : ops[i]? = some oi) (hB : takeB md ops listed i = true)
    (hQ : ∀ c a w, Q (.panic c) (a.put oi.dst v) w → Q (.panic c) a w) (hy : YieldsIf P ops S oi v a) (hS : S w)
    (h : wpTill P md ops Q S n (listed.setIfInBounds i true) (a.put oi.dst v) w) : wpTill P md ops Q S (n + 1) listed a w := by
  simp only [takeB, Bool.and_eq_true, decide_eq_true_eq, List.any_eq_true, List.mem_range, Bool.not_eq_true'] at hB
  obtain ⟨⟨⟨⟨hsel, hord⟩, hz⟩, hf, hr⟩, k, hks, hwk, hku⟩ := hB
  have hr' : i ∈ Region.ready md ops listed := by simpa using hr
  have hki : k ≠ i := by
    rintro rfl
    obtain ⟨o, ho, e, he, hb, hon⟩ := Region.waitsFor_spec hwk
    have := ordered_spec hord ho he hb
    omega
  exact take_first hi hsel hord hQ hwk hki hks n listed a w hz hku (Region.free_spec hi hf) hr' hy hS h
end
end Go.Proofs.YtgeaacabpnepmaaGreatDoor
/- package codec's Writer among other things of the call's own: what a write turns is the writer's block and its row, never a block of the set S. Conditions: as in the texts of layer 2. -/
namespace Go.Proofs.YtgeaacabpnepmaaGreatDoor
open Go.RowKit
set_option linter.unusedVariables false

def CellsX (w : World) (g : Nat) (cs : Array Value) : Prop := ∃ T, Cells w g T cs
theorem CellsX.lt {w : World} {g : Nat} {cs : Array Value} (h : CellsX w g cs) : g < w.heap.size := by obtain ⟨_, h⟩ := h; exact h.lt
theorem CellsX.cell {w : World} {g : Nat} {cs : Array Value} (h : CellsX w g cs) (i : Nat) : w.cell? ⟨g, i, none⟩ = cs[i]? := by obtain ⟨_, h⟩ := h; exact h.cell i
theorem CellsX.frozen {w : World} {g : Nat} {cs : Array Value} (h : CellsX w g cs) (i : Nat) : w.frozen? ⟨g, i, none⟩ = false := by obtain ⟨_, h⟩ := h; exact h.frozen i
theorem CellsX.grown {w w' : World} {g : Nat} {cs : Array Value} {r : Option Nat} (h : CellsX w g cs) (hb : w.grownBy w' r) (hr : some g ≠ r) : CellsX w' g cs := by obtain ⟨T, h⟩ := h; exact ⟨T, h.grown hb hr⟩
theorem CellsX.alloc {w : World} {g : Nat} {cs : Array Value} (h : CellsX w g cs) (o : Obj) : CellsX (w.alloc o) g cs := by obtain ⟨T, h⟩ := h; exact ⟨T, h.alloc o⟩
theorem CellsX.drew {w : World} {g : Nat} {cs : Array Value} (h : CellsX w g cs) : CellsX w.drew g cs := h
theorem CellsX.set {w : World} {g : Nat} {cs : Array Value} (h : CellsX w g cs) (i : Nat) (v : Value) : CellsX (w.setCell ⟨g, i, none⟩ v) g (cs.setIfInBounds i v) := by obtain ⟨T, h⟩ := h; exact ⟨T, h.set i v⟩
structure Kept (S : Nat → Prop) (w w' : World) : Prop where
  os : w'.os = w.os
  tape : w'.tape = w.tape
  output : w'.output = w.output
  size : w.heap.size ≤ w'.heap.size
  block : ∀ k, S k → w'.heap[k]? = w.heap[k]?
theorem Kept.refl (S : Nat → Prop) (w : World) : Kept S w w := ⟨rfl, rfl, rfl, Nat.le_refl _, fun _ _ => rfl⟩
theorem Kept.trans {S : Nat → Prop} {a b c : World} (h : Kept S a b) (k : Kept S b c) : Kept S a c :=
  ⟨k.os.trans h.os, k.tape.trans h.tape, k.output.trans h.output, Nat.le_trans h.size k.size, fun i hi => (k.block i hi).trans (h.block i hi)⟩
theorem Kept.less {S T : Nat → Prop} {a b : World} (h : Kept S a b) (hs : ∀ k, T k → S k) : Kept T a b := ⟨h.os, h.tape, h.output, h.size, fun k hk => h.block k (hs k hk)⟩
theorem kept_grown {S : Nat → Prop} {r : Option Nat} {w w' : World} (h : w.grownBy w' r) (hs : ∀ k, S k → k < w.heap.size) (hr : ∀ k, S k → some k ≠ r) : Kept S w w' := ⟨h.os, h.tape, h.output, h.size, fun k hk => h.block k (hs k hk) (hr k hk)⟩
theorem kept_below {w w' : World} {B : Nat} (h : Kept (fun k => k < B) w w') : Below B w w' := ⟨h.os, h.tape, h.output, h.size, fun k hk => h.block k hk⟩
theorem grown_mk (w : World) (o : Obj) : w.grownBy (w.alloc o).drew none := ⟨rfl, rfl, rfl, by simp, fun k hk _ => Below.heap_alloc _ _ _ hk⟩
theorem grown_alloc (w : World) (o : Obj) : w.grownBy (w.alloc o) none := ⟨rfl, rfl, rfl, by simp, fun k hk _ => Below.heap_alloc _ _ _ hk⟩
def Ws (w : World) (g : Nat) (S : Nat → Prop) (bs : List UInt8) : Prop :=
  ¬ S g ∧ (∀ k, S k → k < w.heap.size) ∧ ∃ ao cap, CellsX w g #[.slice ao bs.length cap] ∧ w.ownsRow (g + 1) 5 1 (.slice ao bs.length cap) bs.length (bvs bs) ∧ ∀ k, (Value.slice ao bs.length cap).ownBlock = some k → ¬ S k
def WsTo (w : World) (g : Nat) (S : Nat → Prop) (bs : List UInt8) (w' : World) : Prop := Ws w' g S bs ∧ Kept S w w'
theorem ws_to {w : World} {g : Nat} {S : Nat → Prop} {bs : List UInt8} (h : Ws w g S bs) : WsTo w g S bs w := ⟨h, Kept.refl _ _⟩
theorem wsTo_trans {w w1 w2 : World} {g : Nat} {S : Nat → Prop} {bs bs2 : List UInt8} (h : WsTo w g S bs w1) (k : WsTo w1 g S bs2 w2) : WsTo w g S bs2 w2 := ⟨k.1, h.2.trans k.2⟩
theorem ws_less {w : World} {g : Nat} {S T : Nat → Prop} {bs : List UInt8} (h : Ws w g S bs) (hs : ∀ k, T k → S k) : Ws w g T bs := by
  obtain ⟨h1, h2, ao, cap, hc, ho, hr⟩ := h
  exact ⟨fun k => h1 (hs _ k), fun k hk => h2 k (hs k hk), ao, cap, hc, ho, fun k e hk => hr k e (hs k hk)⟩
theorem ws_new (w : World) (S : Nat → Prop) {T : TypeId} (hS : ∀ k, S k → k < w.heap.size) : Ws (w.alloc (.cells #[.slice none 0 0] T)) w.heap.size S [] :=
  ⟨fun h => Nat.lt_irrefl _ (hS _ h), fun k hk => by have := hS k hk; simp; omega, none, 0, ⟨_, Cells.made w _ _⟩, World.ownsRow_nil _ _ _ _, fun k e => by simp [Value.ownBlock] at e⟩
theorem ws_push {w wr W w1 : World} {g g' cap cap' : Nat} {S : Nat → Prop} {ao : Option Addr} {bb : List UInt8} {x : Int} {b : UInt8} (hb : Kept S w wr) (hSl : ∀ k, S k → k < wr.heap.size) (hSg : ¬ S g)
    (hSr : ∀ k, (Value.slice ao bb.length cap).ownBlock = some k → ¬ S k) (hW : wr.grownBy W none) (hc1 : CellsX w1 g #[.slice ao bb.length cap])
    (hgr : W.grownBy w1 (Value.slice ao bb.length cap).ownBlock) (hat : (Value.slice ao bb.length cap).ownBlock = some g' ∨ g' = W.heap.size)
    (hown1 : w1.ownsRow (g + 1) 5 1 (.slice (some ⟨g', 0, none⟩) (bb.length + 1) cap') (bb.length + 1) (bvs bb ++ [.int .u8 x])) (hx : x = (b.toNat : Int)) :
    WsTo w g S (bb ++ [b]) (w1.setCell ⟨g, 0, none⟩ (.slice (some ⟨g', 0, none⟩) (bb.length + 1) cap')) := by
  subst hx
  have k1 : Kept S wr w1 := by
    refine (kept_grown hW hSl (fun _ _ => by simp)).trans (kept_grown hgr (fun k hk => by have := hSl k hk; have := hW.size; omega) (fun k hk e => hSr k e.symm hk))
  refine ⟨⟨hSg, fun k hk => ?_, some ⟨g', 0, none⟩, cap', ?_, ?_, fun k e hk => ?_⟩, (hb.trans k1).trans ⟨rfl, rfl, rfl, by simp [World.setCell], fun k hk => Below.heap_setCell _ _ _ k (fun e => hSg (by simp at e; rwa [← e]))⟩⟩
  · have := hSl k hk; have := k1.size; simp [World.setCell]; omega
  · have := hc1.set 0 (.slice (some ⟨g', 0, none⟩) (bb.length + 1) cap')
    simpa using this
  · have := ownsRow_setCell_below hown1 (a := ⟨g, 0, none⟩) (by show g < g + 1; omega) (.slice (some ⟨g', 0, none⟩) (bb.length + 1) cap')
    simpa [bvs_append, bvs, bv] using this
  · have e' : g' = k := by simpa [Value.ownBlock] using e
    rcases hat with h | h
    · exact hSr g' h (e' ▸ hk)
    · have := hSl k hk; have := hW.size; omega
def PutS (w : World) (g : Nat) (S : Nat → Prop) (bs : List UInt8) (k n : Nat) (j : Value) (wr : World) : Prop :=
  ∃ i : Nat, i ≤ k ∧ j = .int .i64 i ∧ WsTo w g S (bs ++ le i n) wr

set_option maxHeartbeats 1000000 in
set_option maxRecDepth 20000 in
theorem put8s (g n : Nat) (S : Nat → Prop) (bs : List UInt8) (w : World) (h : Ws w g S bs) (hl : bs.length ≤ 1099511627776) (hn : n < 256) :
    Calls Tryz.prog 238 #[.pointer (some ⟨g, 0, none⟩), .int .u8 n] w fun E w' => E = .returned (.tuple #[]) ∧ WsTo w g S (bs ++ le 1 n) w' := by
  have HN := Lib.hid hn
  clear hn
  go_enter Tryz.func238, Tryz.ntmps238
  go_wp2_with fail
  refine (width8 _).mono ?_
  rintro E w' ⟨rfl, rfl⟩
  go_wp2
  go_loopw [4, 8] (fun _ j wr => PutS w g S bs 1 n j wr) (fun _ j _ => 1 - (intOf j).toNat)
  case atStart => exact ⟨0, by omega, rfl, by simpa [le] using h, Kept.refl _ _⟩
  case round =>
    obtain ⟨i, hi, rfl, hto⟩ := hrel
    by_cases hlt : i < 1
    · have hll : (bs ++ le i n).length = bs.length + i := by rw [List.length_append, le_length]
      have hln : (bs ++ le i n).length + 1 ≤ 1099511627800 := by omega
      have HB := Lib.hid (le_snoc i n)
      clear hll
      generalize hbb : bs ++ le i n = bb at *
      have HBB := Lib.hid hbb
      clear hbb
      obtain ⟨⟨hSg, hSl, ao, cap, hc, hown, hSr⟩, hb⟩ := hto
      have HS := Lib.hid hSr
      have HSl := Lib.hid hSl
      clear hSr hSl
      have c0 : wr.cell? ⟨g, 0, none⟩ = some (.slice ao bb.length cap) := by rw [hc.cell]; rfl
      have f0 := hc.frozen 0
      obtain ⟨i0, hi0, hz0, hz1, hz2⟩ := info_parts info_u8
      have HI0 := Lib.hid hi0
      have HZ0 := Lib.hid hz0
      have HZ1 := Lib.hid hz1
      have HZ2 := Lib.hid hz2
      clear hi0 hz0 hz1 hz2
      have hb1 : bb.length + 1 ≤ maxLen := by simp only [maxLen]; omega
      have hb2 : (bb.length + 1) * 1 ≤ 140737488355328 := by omega
      have hgl := hc.lt
      have hne : some g ≠ (Value.slice ao bb.length cap).ownBlock := fun e => by have := (hown.lt g e.symm).1; omega
      have HNE := Lib.hid hne
      clear hne
      have e1 : IntKind.i64.wrap (8 * (i : Int)) = 8 * (i : Int) := IntWalk.i64_in _ (by omega)
      have e2 : (8 * (i : Int)).toNat = 8 * i := by omega
      have e3 : (0 : Int) ≤ 8 * (i : Int) := by omega
      go_wp2
      go_region_law (refine step_append_lies _ rfl (.tmp 15) (.tmp 22) 181 rfl (g + 1) 5 i0 (.int .u8 0) 1 1 Tryz.underlying181 HI0.out HZ0.out HZ1.out HZ2.out rfl (by decide) _ _ _ (by simp [Act.eval]) (hown.alloc _) ⟨wr.heap.size, 0, none⟩ 1 1 [_] (by simp [Act.eval]) rfl (cell_one_new _ _ _) (by simp [Value.oneCell']) (by decide) hb1 hb2 (by simp; omega) _ rfl ?_; intro g' cap' w1 hown1 hgr hat hlt1; have hc1 := CellsX.grown (hc.alloc _).drew hgr HNE.out; have c1 : w1.cell? ⟨g, 0, none⟩ = some (.slice ao bb.length cap) := (by rw [hc1.cell]; rfl); have f1 := hc1.frozen 0)
      all_goals
        have HG := Lib.hid hgr
        have HA := Lib.hid hat
        clear hgr hat e1 e2 e3
        go_wp2
        go_roundw
        case rel =>
          refine ⟨i + 1, by omega, by go_num, ?_⟩
          rw [HB.out, ← List.append_assoc, HBB.out]
          have hnn := HN.out
          exact ws_push hb HSl.out hSg HS.out (grown_mk _ _) hc1 HG.out HA.out hown1 (by first | exact byte_of' n i (by omega) | exact byte_of n i)
        case measure => simp [intOf]; omega
    · have hx : i = 1 := by omega
      have HX := Lib.hid hx
      clear hx
      go_wp2
      go_end0
      exact ⟨rfl, by rw [← HX.out]; exact hto⟩
theorem wsU8 (g n : Nat) (S : Nat → Prop) (bs : List UInt8) (w : World) (h : Ws w g S bs) (hl : bs.length ≤ 1099511627776) (hn : n < 256) :
    Calls Tryz.prog 207 #[.pointer (some ⟨g, 0, none⟩), .int .u8 n] w fun E w' => E = .returned (.tuple #[]) ∧ WsTo w g S (bs ++ le 1 n) w' := by
  have HN := Lib.hid hn
  clear hn
  go_enter Tryz.func207, Tryz.ntmps207
  go_wp2_with fail
  refine (put8s g n S bs _ h hl HN.out).mono ?_
  rintro E w' ⟨rfl, hw⟩
  go_wp2
  go_end0
  exact ⟨rfl, hw⟩


set_option maxHeartbeats 1000000 in
set_option maxRecDepth 20000 in
theorem put64s (g n : Nat) (S : Nat → Prop) (bs : List UInt8) (w : World) (h : Ws w g S bs) (hl : bs.length ≤ 1099511627776) (hn : n < 18446744073709551616) :
    Calls Tryz.prog 237 #[.pointer (some ⟨g, 0, none⟩), .int .u64 n] w fun E w' => E = .returned (.tuple #[]) ∧ WsTo w g S (bs ++ le 8 n) w' := by
  have HN := Lib.hid hn
  clear hn
  go_enter Tryz.func237, Tryz.ntmps237
  go_wp2_with fail
  refine (width64 _).mono ?_
  rintro E w' ⟨rfl, rfl⟩
  go_wp2
  go_loopw [4, 8] (fun _ j wr => PutS w g S bs 8 n j wr) (fun _ j _ => 8 - (intOf j).toNat)
  case atStart => exact ⟨0, by omega, rfl, by simpa [le] using h, Kept.refl _ _⟩
  case round =>
    obtain ⟨i, hi, rfl, hto⟩ := hrel
    by_cases hlt : i < 8
    · have hll : (bs ++ le i n).length = bs.length + i := by rw [List.length_append, le_length]
      have hln : (bs ++ le i n).length + 1 ≤ 1099511627800 := by omega
      have HB := Lib.hid (le_snoc i n)
      clear hll
      generalize hbb : bs ++ le i n = bb at *
      have HBB := Lib.hid hbb
      clear hbb
      obtain ⟨⟨hSg, hSl, ao, cap, hc, hown, hSr⟩, hb⟩ := hto
      have HS := Lib.hid hSr
      have HSl := Lib.hid hSl
      clear hSr hSl
      have c0 : wr.cell? ⟨g, 0, none⟩ = some (.slice ao bb.length cap) := by rw [hc.cell]; rfl
      have f0 := hc.frozen 0
      obtain ⟨i0, hi0, hz0, hz1, hz2⟩ := info_parts info_u8
      have HI0 := Lib.hid hi0
      have HZ0 := Lib.hid hz0
      have HZ1 := Lib.hid hz1
      have HZ2 := Lib.hid hz2
      clear hi0 hz0 hz1 hz2
      have hb1 : bb.length + 1 ≤ maxLen := by simp only [maxLen]; omega
      have hb2 : (bb.length + 1) * 1 ≤ 140737488355328 := by omega
      have hgl := hc.lt
      have hne : some g ≠ (Value.slice ao bb.length cap).ownBlock := fun e => by have := (hown.lt g e.symm).1; omega
      have HNE := Lib.hid hne
      clear hne
      have e1 : IntKind.i64.wrap (8 * (i : Int)) = 8 * (i : Int) := IntWalk.i64_in _ (by omega)
      have e2 : (8 * (i : Int)).toNat = 8 * i := by omega
      have e3 : (0 : Int) ≤ 8 * (i : Int) := by omega
      go_wp2
      go_region_law (refine step_append_lies _ rfl (.tmp 15) (.tmp 21) 181 rfl (g + 1) 5 i0 (.int .u8 0) 1 1 Tryz.underlying181 HI0.out HZ0.out HZ1.out HZ2.out rfl (by decide) _ _ _ (by simp [Act.eval]) (hown.alloc _) ⟨wr.heap.size, 0, none⟩ 1 1 [_] (by simp [Act.eval]) rfl (cell_one_new _ _ _) (by simp [Value.oneCell']) (by decide) hb1 hb2 (by simp; omega) _ rfl ?_; intro g' cap' w1 hown1 hgr hat hlt1; have hc1 := CellsX.grown (hc.alloc _).drew hgr HNE.out; have c1 : w1.cell? ⟨g, 0, none⟩ = some (.slice ao bb.length cap) := (by rw [hc1.cell]; rfl); have f1 := hc1.frozen 0)
      all_goals
        have HG := Lib.hid hgr
        have HA := Lib.hid hat
        clear hgr hat e1 e2 e3
        go_wp2
        go_roundw
        case rel =>
          refine ⟨i + 1, by omega, by go_num, ?_⟩
          rw [HB.out, ← List.append_assoc, HBB.out]
          have hnn := HN.out
          exact ws_push hb HSl.out hSg HS.out (grown_mk _ _) hc1 HG.out HA.out hown1 (by first | exact byte_of' n i (by omega) | exact byte_of n i)
        case measure => simp [intOf]; omega
    · have hx : i = 8 := by omega
      have HX := Lib.hid hx
      clear hx
      go_wp2
      go_end0
      exact ⟨rfl, by rw [← HX.out]; exact hto⟩
theorem wsU64 (g n : Nat) (S : Nat → Prop) (bs : List UInt8) (w : World) (h : Ws w g S bs) (hl : bs.length ≤ 1099511627776) (hn : n < 18446744073709551616) :
    Calls Tryz.prog 206 #[.pointer (some ⟨g, 0, none⟩), .int .u64 n] w fun E w' => E = .returned (.tuple #[]) ∧ WsTo w g S (bs ++ le 8 n) w' := by
  have HN := Lib.hid hn
  clear hn
  go_enter Tryz.func206, Tryz.ntmps206
  go_wp2_with fail
  refine (put64s g n S bs _ h hl HN.out).mono ?_
  rintro E w' ⟨rfl, hw⟩
  go_wp2
  go_end0
  exact ⟨rfl, hw⟩

set_option maxRecDepth 100000 in
theorem wsBytes (g : Nat) (S : Nat → Prop) (bs : List UInt8) (w : World) (h : Ws w g S bs) :
    Calls Tryz.prog 208 #[.pointer (some ⟨g, 0, none⟩)] w fun E w' => E = .returned (.string (str bs)) ∧ w = w' := by
  obtain ⟨_, _, ao, cap, hc, hown, _⟩ := h
  have c0 : w.cell? ⟨g, 0, none⟩ = some (.slice ao bs.length cap) := by rw [hc.cell]; rfl
  have hcv : (convert 181 9 (.slice ao bs.length cap)).run Tryz.prog w = .ok (.string (str bs)) w := by
    rcases hown.2 with ⟨he, h0⟩ | ⟨g', cap', cur, he, _, hh, _⟩
    · have : bs = [] := List.eq_nil_of_length_eq_zero h0
      subst this
      injection he with e1 e2 e3
      subst e1 e3
      exact Lib.run_convert_nil_bytes w _ _ 5 0 Tryz.underlying181 Tryz.underlying5 Tryz.underlying9
    · injection he with e1 e2 e3
      subst e1 e3
      refine run_convert_bytes_back w _ _ 5 _ _ bs Tryz.underlying181 Tryz.underlying5 Tryz.underlying9 (fun j hj => ?_)
      exact hown.cells (g := g') rfl j _ (by simp [bvs, bv, List.getElem?_eq_getElem hj])
  go_enter Tryz.func208, Tryz.ntmps208
  go_wp2
  go_ret
  exact ⟨rfl, rfl⟩
end Go.Proofs.YtgeaacabpnepmaaGreatDoor
/- Players, shots, states: their numbers, their bytes, and how bytes are read: the plain mathematics of layer 8. Nothing of the program. -/
namespace Go.Proofs.YtgeaacabpnepmaaGreatDoor
open Go.RowKit
set_option linter.unusedVariables false

/-! Readers one behind the other. -/
def many {α : Type} (P : Nat → List UInt8 → Got α) : Nat → Nat → List UInt8 → Got (List α)
  | 0, _, l => ⟨0, [], l⟩
  | m + 1, i, l => ⟨fin (P i l).err (many P m (i + 1) (P i l).rest).err, (P i l).val :: (many P m (i + 1) (P i l).rest).val, (many P m (i + 1) (P i l).rest).rest⟩
theorem many_snoc {α : Type} (P : Nat → List UInt8 → Got α) : ∀ (m i : Nat) (l : List UInt8),
    many P (m + 1) i l = ⟨fin (many P m i l).err (P (i + m) (many P m i l).rest).err, (many P m i l).val ++ [(P (i + m) (many P m i l).rest).val], (P (i + m) (many P m i l).rest).rest⟩
  | 0, i, l => by simp [many, fin_of, fin_zero]
  | m + 1, i, l => by
    rw [many, many_snoc P m (i + 1) (P i l).rest]
    simp only [many, fin_fin, List.cons_append]
    rw [show i + 1 + m = i + (m + 1) from by omega]
theorem many_len {α : Type} (P : Nat → List UInt8 → Got α) : ∀ (m i : Nat) (l : List UInt8), (many P m i l).val.length = m
  | 0, _, _ => rfl
  | m + 1, i, l => by simp [many, many_len P m]

structure Good {α : Type} (P : List UInt8 → Got α) (e : α → List UInt8) (ok : α → Prop) : Prop where
  yes : ∀ a more, ok a → P (e a ++ more) = ⟨0, a, more⟩
  cut : ∀ a p s, ok a → e a = p ++ s → s ≠ [] → (P p).err = 10 ∧ (P p).rest = []
  one : ∀ l, (P l).err = 0 → l = e (P l).val ++ (P l).rest ∧ ok (P l).val
  bad : ∀ l, (P l).err ≠ 0 → (P l).rest = []
  len : ∀ l, (P l).rest.length ≤ l.length

theorem num_le (k n : Nat) (more : List UInt8) (hn : n < 256 ^ k) : num k (le k n ++ more) = ⟨0, n, more⟩ := by
  have h := le_length k n
  unfold num
  rw [if_pos (by simp [h])]
  rw [List.take_append_of_le_length (by omega), List.drop_append_of_le_length (by omega), List.take_of_length_le (by omega), List.drop_of_length_le (by omega), un_le, Nat.mod_eq_of_lt hn]
  rfl
theorem num_good (k : Nat) : Good (num k) (le k) (fun n => n < 256 ^ k) where
  yes := fun n more hn => num_le k n more hn
  cut := fun n p s hn he hs => by
    have h := le_length k n
    have h0 : 0 < s.length := List.length_pos_iff.2 hs
    rw [he, List.length_append] at h
    unfold num
    rw [if_neg (by omega)]
    exact ⟨rfl, rfl⟩
  one := fun l h => by
    unfold num at h ⊢
    by_cases hk : k ≤ l.length
    · rw [if_pos hk]
      have hl : (l.take k).length = k := by simp; omega
      refine ⟨?_, ?_⟩
      · show l = le k (un (l.take k)) ++ l.drop k
        have := le_un (l.take k)
        rw [hl] at this
        rw [this, List.take_append_drop]
      · have := un_lt (l.take k)
        rwa [hl] at this
    · rw [if_neg hk] at h; simp at h
  bad := fun l h => (num_err h).1
  len := num_len k
def okM {α : Type} (ok : Nat → α → Prop) : Nat → Nat → List α → Prop
  | 0, _, xs => xs = []
  | m + 1, i, xs => ∃ x r, xs = x :: r ∧ ok i x ∧ okM ok m (i + 1) r
def enM {α : Type} (e : Nat → α → List UInt8) : Nat → List α → List UInt8
  | _, [] => []
  | i, x :: r => e i x ++ enM e (i + 1) r
theorem begin_two {a b p s : List UInt8} (h : a ++ b = p ++ s) : (∃ t, a = p ++ t ∧ t ≠ []) ∨ (∃ q, p = a ++ q ∧ b = q ++ s) := by
  rcases List.append_eq_append_iff.1 h with ⟨q, h1, h2⟩ | ⟨q, h1, h2⟩
  · exact .inr ⟨q, h1, h2⟩
  · by_cases hq : q = []
    · subst hq
      exact .inr ⟨[], by simpa using h1.symm, by simpa using h2.symm⟩
    · exact .inl ⟨q, h1, hq⟩
theorem fin_eq_zero {a b : Int} (h : fin a b = 0) : a = 0 ∧ b = 0 := by
  unfold fin at h
  split at h
  · exact ⟨by assumption, h⟩
  · exact absurd h (by assumption)
theorem good_many {α : Type} {P : Nat → List UInt8 → Got α} {e : Nat → α → List UInt8} {ok : Nat → α → Prop} (h : ∀ i, Good (P i) (e i) (ok i)) : ∀ m i, Good (many P m i) (enM e i) (okM ok m i)
  | 0, i => ⟨fun a more ha => by cases ha; rfl, fun a p s ha he hs => by
      cases ha
      have := congrArg List.length he
      simp [enM] at this
      exact absurd (List.eq_nil_of_length_eq_zero (by omega)) hs, fun l _ => ⟨rfl, rfl⟩, fun l hb => absurd rfl hb, fun l => Nat.le_refl _⟩
  | m + 1, i => by
    have ih := good_many h m (i + 1)
    refine ⟨?_, ?_, ?_, ?_, ?_⟩
    · rintro a more ⟨x, r, rfl, hx, hr⟩
      simp only [many, enM, List.append_assoc, (h i).yes x _ hx, ih.yes r more hr]
      rfl
    · rintro a p s ⟨x, r, rfl, hx, hr⟩ he hs
      simp only [enM] at he
      rcases begin_two he with ⟨t, h1, h2⟩ | ⟨q, rfl, h2⟩
      · obtain ⟨e1, e2⟩ := (h i).cut x p t hx h1 h2
        refine ⟨by simp only [many, e1]; rfl, ?_⟩
        simp only [many, e2]
        have := ih.len []
        exact List.eq_nil_of_length_eq_zero (by simpa using this)
      · obtain ⟨e1, e2⟩ := ih.cut r q s hr h2 hs
        simp only [many, (h i).yes x q hx, e1, e2, fin_of]
        exact ⟨trivial, trivial⟩
    · intro l hl
      obtain ⟨h1, h2⟩ := fin_eq_zero (show fin (P i l).err (many P m (i + 1) (P i l).rest).err = 0 from hl)
      obtain ⟨a1, a2⟩ := (h i).one l h1
      obtain ⟨b1, b2⟩ := ih.one _ h2
      refine ⟨?_, _, _, rfl, a2, b2⟩
      show l = (e i (P i l).val ++ enM e (i + 1) (many P m (i + 1) (P i l).rest).val) ++ (many P m (i + 1) (P i l).rest).rest
      rw [List.append_assoc, ← b1, ← a1]
    · intro l hl
      show (many P m (i + 1) (P i l).rest).rest = []
      by_cases h1 : (P i l).err = 0
      · refine ih.bad _ fun h2 => hl ?_
        show fin _ _ = 0
        rw [h1, h2]; rfl
      · rw [(h i).bad l h1]
        have := ih.len []
        exact List.eq_nil_of_length_eq_zero (by simpa using this)
    · intro l
      exact Nat.le_trans (ih.len _) ((h i).len l)
def seq {α β : Type} (P : List UInt8 → Got α) (Q : α → List UInt8 → Got β) (l : List UInt8) : Got (α × β) :=
  ⟨fin (P l).err (Q (P l).val (P l).rest).err, ((P l).val, (Q (P l).val (P l).rest).val), (Q (P l).val (P l).rest).rest⟩
theorem good_seq {α β : Type} {P : List UInt8 → Got α} {Q : α → List UInt8 → Got β} {e : α → List UInt8} {f : α → β → List UInt8} {ok : α → Prop} {oq : α → β → Prop}
    (h : Good P e ok) (k : ∀ a, Good (Q a) (f a) (oq a)) : Good (seq P Q) (fun x => e x.1 ++ f x.1 x.2) (fun x => ok x.1 ∧ oq x.1 x.2) := by
  refine ⟨?_, ?_, ?_, ?_, ?_⟩
  · rintro ⟨a, b⟩ more ⟨ha, hb⟩
    simp only [seq, List.append_assoc, h.yes a _ ha, (k a).yes b more hb]
    rfl
  · rintro ⟨a, b⟩ p s ⟨ha, hb⟩ he hs
    rcases begin_two he with ⟨t, h1, h2⟩ | ⟨q, rfl, h2⟩
    · obtain ⟨e1, e2⟩ := h.cut a p t ha h1 h2
      refine ⟨by simp only [seq, e1]; rfl, ?_⟩
      simp only [seq, e2]
      have := (k (P p).val).len []
      exact List.eq_nil_of_length_eq_zero (by simpa using this)
    · obtain ⟨e1, e2⟩ := (k a).cut b q s hb h2 hs
      simp only [seq, h.yes a q ha, e1, e2, fin_of]
      exact ⟨trivial, trivial⟩
  · intro l hl
    obtain ⟨h1, h2⟩ := fin_eq_zero (show fin (P l).err (Q (P l).val (P l).rest).err = 0 from hl)
    obtain ⟨a1, a2⟩ := h.one l h1
    obtain ⟨b1, b2⟩ := (k (P l).val).one _ h2
    refine ⟨?_, a2, b2⟩
    show l = (e (P l).val ++ f (P l).val (Q (P l).val (P l).rest).val) ++ (Q (P l).val (P l).rest).rest
    rw [List.append_assoc, ← b1, ← a1]
  · intro l hl
    show (Q (P l).val (P l).rest).rest = []
    by_cases h1 : (P l).err = 0
    · refine (k _).bad _ fun h2 => hl ?_
      show fin _ _ = 0
      rw [h1, h2]; rfl
    · rw [h.bad l h1]
      have := (k (P l).val).len []
      exact List.eq_nil_of_length_eq_zero (by simpa using this)
  · intro l
    exact Nat.le_trans ((k _).len _) (h.len l)
end Go.Proofs.YtgeaacabpnepmaaGreatDoor
/- Players, shots, states: what may be, the bytes of a state, and the state of bytes: plain. Nothing of the program. -/
namespace Go.Proofs.YtgeaacabpnepmaaGreatDoor
open Go.RowKit
set_option linter.unusedVariables false

structure Pl where
  x : Int
  y : Int
  vx : Int
  vy : Int
  h : Nat
  c : Nat
  f : Nat
structure Sh where
  x : Int
  y : Int
  vx : Int
  vy : Int
  o : Nat
  l : Nat
structure St where
  fr : Nat
  sd : Nat
  p : Pl
  q : Pl
  ss : List Sh
  s0 : Nat
  s1 : Nat
theorem pl_eq (a b : Pl) : a = b ↔ a.x = b.x ∧ a.y = b.y ∧ a.vx = b.vx ∧ a.vy = b.vy ∧ a.h = b.h ∧ a.c = b.c ∧ a.f = b.f := by cases a; cases b; simp
theorem sh_eq (a b : Sh) : a = b ↔ a.x = b.x ∧ a.y = b.y ∧ a.vx = b.vx ∧ a.vy = b.vy ∧ a.o = b.o ∧ a.l = b.l := by cases a; cases b; simp
theorem st_eq (a b : St) : a = b ↔ a.fr = b.fr ∧ a.sd = b.sd ∧ a.p = b.p ∧ a.q = b.q ∧ a.ss = b.ss ∧ a.s0 = b.s0 ∧ a.s1 = b.s1 := by cases a; cases b; simp
instance decPl (a b : Pl) : Decidable (a = b) := decidable_of_iff _ (pl_eq a b).symm
instance decSh (a b : Sh) : Decidable (a = b) := decidable_of_iff _ (sh_eq a b).symm
instance decSt (a b : St) : Decidable (a = b) := decidable_of_iff _ (st_eq a b).symm
def same (a b : St) : Bool := decide (a = b)

def i32 (z : Int) : Prop := -2147483648 ≤ z ∧ z ≤ 2147483647
def bds : List (Int × Int) := [(0, 61440), (0, 28672), (-1024, 1024), (-1024, 1024), (1, 100), (0, 30), (0, 3), (0, 65024), (0, 32256), (-2048, 2048), (-2048, 2048), (0, 1), (1, 40)]
def lo (i : Nat) : Int := (bds.getD i (0, 0)).1
def hi (i : Nat) : Int := (bds.getD i (0, 0)).2
/-! Bytes. -/
def un32 (z : Int) : Nat := (z % 4294967296).toNat
def wd (i : Nat) : Nat := if i < 4 then 4 else 1
def Sh.raw (s : Sh) : List Nat := [un32 s.x, un32 s.y, un32 s.vx, un32 s.vy, s.o, s.l]
abbrev eN (i : Nat) (n : Nat) : List UInt8 := le (wd i) n
def he (s : Sh) : List UInt8 := enM eN 0 s.raw
abbrev hR : List UInt8 → Got (List Nat) := many (fun i => num (wd i)) 6 0
end Go.Proofs.YtgeaacabpnepmaaGreatDoor
/- A block of cells read whole: one step of the walk, whatever the count of its cells. Nothing of the program but the type of a state. -/
namespace Go.Proofs.YtgeaacabpnepmaaGreatDoor
open Go.RowKit
set_option linter.unusedVariables false

end Go.Proofs.YtgeaacabpnepmaaGreatDoor
/- A player and a shot as their numbers, and numbers as a player or a shot: one contract each. -/
namespace Go.Proofs.YtgeaacabpnepmaaGreatDoor
open Go.RowKit
set_option linter.unusedVariables false

def pv (p : Pl) : Value := .agg #[.int .i32 p.x, .int .i32 p.y, .int .i32 p.vx, .int .i32 p.vy, .int .u8 (p.h : Int), .int .u8 (p.c : Int), .int .u8 (p.f : Int)]
def hv (s : Sh) : Value := .agg #[.int .i32 s.x, .int .i32 s.y, .int .i32 s.vx, .int .i32 s.vy, .int .u8 (s.o : Int), .int .u8 (s.l : Int)]
end Go.Proofs.YtgeaacabpnepmaaGreatDoor
/- Whether all parts of players, of shots, are within their bounds; Check, and the document's: one contract each. -/
namespace Go.Proofs.YtgeaacabpnepmaaGreatDoor
open Go.RowKit
set_option linter.unusedVariables false

end Go.Proofs.YtgeaacabpnepmaaGreatDoor
/- Whether a player, a shot, a state may be: the document's functions, and Check: one contract each. -/
namespace Go.Proofs.YtgeaacabpnepmaaGreatDoor
open Go.RowKit
set_option linter.unusedVariables false

abbrev stc (s : St) (ao : Option Addr) (cap : Nat) : Array Value :=
  #[.int .u64 (s.fr : Int), .int .u64 (s.sd : Int), .int .i32 s.p.x, .int .i32 s.p.y, .int .i32 s.p.vx, .int .i32 s.p.vy, .int .u8 (s.p.h : Int), .int .u8 (s.p.c : Int), .int .u8 (s.p.f : Int),
    .int .i32 s.q.x, .int .i32 s.q.y, .int .i32 s.q.vx, .int .i32 s.q.vy, .int .u8 (s.q.h : Int), .int .u8 (s.q.c : Int), .int .u8 (s.q.f : Int), .slice ao s.ss.length cap, .int .u16 (s.s0 : Int), .int .u16 (s.s1 : Int)]
abbrev sv (s : St) (ao : Option Addr) (cap : Nat) : Value := .agg (stc s ao cap)
end Go.Proofs.YtgeaacabpnepmaaGreatDoor
/- What package state writes: players, shots, a state: one contract each. -/
namespace Go.Proofs.YtgeaacabpnepmaaGreatDoor
open Go.RowKit
set_option linter.unusedVariables false

theorem u8_id {n : Nat} (h : n < 256) : IntKind.u8.wrap (n : Int) = (n : Int) := by
  simp [IntKind.wrap, IntKind.bits, IntKind.signed]; omega
end Go.Proofs.YtgeaacabpnepmaaGreatDoor
/- Put: the bytes of a state: its contract. -/
namespace Go.Proofs.YtgeaacabpnepmaaGreatDoor
open Go.RowKit
set_option linter.unusedVariables false

def two (s : St) (k : Nat) : List UInt8 := if k = 0 then [] else if k = 1 then le 2 s.s0 else le 2 s.s0 ++ le 2 s.s1
end Go.Proofs.YtgeaacabpnepmaaGreatDoor
