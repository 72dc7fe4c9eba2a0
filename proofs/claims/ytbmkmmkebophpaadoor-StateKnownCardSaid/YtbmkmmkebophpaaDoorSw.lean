/- package codec's Writer among other things of the call's own: what a write turns is the writer's block and its row, never a block of the set S. Conditions: as in the texts of layer 2. -/
import Derived.Test.YtbmkmmkebophpaaDoorWrB
namespace Go.Proofs.YtbmkmmkebophpaaDoor
open Go.RowKit
set_option linter.unusedVariables false

/-- The blocks of S are as they were. -/
structure Kept (S : Nat → Prop) (w w' : World) : Prop where
  os : w'.os = w.os
  tape : w'.tape = w.tape
  output : w'.output = w.output
  size : w.heap.size ≤ w'.heap.size
  block : ∀ k, S k → w'.heap[k]? = w.heap[k]?
theorem Kept.refl (S : Nat → Prop) (w : World) : Kept S w w := ⟨rfl, rfl, rfl, Nat.le_refl _, fun _ _ => rfl⟩
theorem Kept.trans {S : Nat → Prop} {a b c : World} (h : Kept S a b) (k : Kept S b c) : Kept S a c :=
  ⟨k.os.trans h.os, k.tape.trans h.tape, k.output.trans h.output, Nat.le_trans h.size k.size, fun i hi => (k.block i hi).trans (h.block i hi)⟩
theorem Kept.less {S T : Nat → Prop} {a b : World} (h : Kept S a b) (hs : ∀ k, T k → S k) : Kept T a b := ⟨h.os, h.tape, h.output, h.size, fun k hk => h.block k (hs k hk)⟩
theorem kept_grown {S : Nat → Prop} {r : Option Nat} {w w' : World} (h : w.grownBy w' r) (hs : ∀ k, S k → k < w.heap.size) (hr : ∀ k, S k → some k ≠ r) : Kept S w w' := ⟨h.os, h.tape, h.output, h.size, fun k hk => h.block k (hs k hk) (hr k hk)⟩
theorem kept_below {w w' : World} {B : Nat} (h : Kept (fun k => k < B) w w') : Below B w w' := ⟨h.os, h.tape, h.output, h.size, fun k hk => h.block k hk⟩
theorem grown_mk (w : World) (o : Obj) : w.grownBy (w.alloc o).drew none := ⟨rfl, rfl, rfl, by simp, fun k hk _ => Below.heap_alloc _ _ _ hk⟩
theorem grown_alloc (w : World) (o : Obj) : w.grownBy (w.alloc o) none := ⟨rfl, rfl, rfl, by simp, fun k hk _ => Below.heap_alloc _ _ _ hk⟩
/-- The writer's block g, and its row; neither is of S. -/
def Ws (w : World) (g : Nat) (S : Nat → Prop) (bs : List UInt8) : Prop :=
  ¬ S g ∧ (∀ k, S k → k < w.heap.size) ∧ ∃ ao cap, Cells w g 60 #[.slice ao bs.length cap] ∧ w.ownsRow (g + 1) 5 1 (.slice ao bs.length cap) bs.length (bvs bs) ∧ ∀ k, (Value.slice ao bs.length cap).ownBlock = some k → ¬ S k
def WsTo (w : World) (g : Nat) (S : Nat → Prop) (bs : List UInt8) (w' : World) : Prop := Ws w' g S bs ∧ Kept S w w'
theorem ws_to {w : World} {g : Nat} {S : Nat → Prop} {bs : List UInt8} (h : Ws w g S bs) : WsTo w g S bs w := ⟨h, Kept.refl _ _⟩
theorem wsTo_trans {w w1 w2 : World} {g : Nat} {S : Nat → Prop} {bs bs2 : List UInt8} (h : WsTo w g S bs w1) (k : WsTo w1 g S bs2 w2) : WsTo w g S bs2 w2 := ⟨k.1, h.2.trans k.2⟩
theorem ws_less {w : World} {g : Nat} {S T : Nat → Prop} {bs : List UInt8} (h : Ws w g S bs) (hs : ∀ k, T k → S k) : Ws w g T bs := by
  obtain ⟨h1, h2, ao, cap, hc, ho, hr⟩ := h
  exact ⟨fun k => h1 (hs _ k), fun k hk => h2 k (hs k hk), ao, cap, hc, ho, fun k e hk => hr k e (hs k hk)⟩
theorem ws_lt {w : World} {g : Nat} {S : Nat → Prop} {bs : List UInt8} (h : Ws w g S bs) : g < w.heap.size := by obtain ⟨_, _, _, _, hc, _⟩ := h; exact hc.lt
/-- New blocks may join S. -/
theorem ws_more {w w' : World} {g : Nat} {S T : Nat → Prop} {bs : List UInt8} (h : Ws w g S bs) (k : w.grownBy w' none) (hT : ∀ k, T k → S k ∨ (w.heap.size ≤ k ∧ k < w'.heap.size)) : Ws w' g T bs := by
  obtain ⟨h1, h2, ao, cap, hc, ho, hr⟩ := h
  refine ⟨fun hk => ?_, fun i hi => ?_, ao, cap, hc.grown k (by simp), ?_, fun i e hi => ?_⟩
  · have := hc.lt
    rcases hT _ hk with h3 | h3
    · exact h1 h3
    · omega
  · have := k.size
    rcases hT _ hi with h3 | h3
    · have := h2 i h3; omega
    · exact h3.2
  · exact ho.kept k (by
      rcases ho.2 with ⟨he, _⟩ | ⟨g', cap', cur, he, hg, _⟩
      · rw [he]; exact .inl rfl
      · rw [he]; exact .inr (by simp [Value.ownBlock]))
  · have := (ho.lt i e).2
    rcases hT _ hi with h3 | h3
    · exact hr i e h3
    · omega
theorem ws_new (w : World) (S : Nat → Prop) (hS : ∀ k, S k → k < w.heap.size) : Ws (w.alloc (.cells #[.slice none 0 0] 60)) w.heap.size S [] :=
  ⟨fun h => Nat.lt_irrefl _ (hS _ h), fun k hk => by have := hS k hk; simp; omega, none, 0, Cells.made w _ _, World.ownsRow_nil _ _ _ _, fun k e => by simp [Value.ownBlock] at e⟩
theorem ws_push {w wr W w1 : World} {g g' cap cap' : Nat} {S : Nat → Prop} {ao : Option Addr} {bb : List UInt8} {x : Int} {b : UInt8} (hb : Kept S w wr) (hSl : ∀ k, S k → k < wr.heap.size) (hSg : ¬ S g)
    (hSr : ∀ k, (Value.slice ao bb.length cap).ownBlock = some k → ¬ S k) (hW : wr.grownBy W none) (hc1 : Cells w1 g 60 #[.slice ao bb.length cap])
    (hgr : W.grownBy w1 (Value.slice ao bb.length cap).ownBlock) (hat : (Value.slice ao bb.length cap).ownBlock = some g' ∨ g' = W.heap.size)
    (hown1 : w1.ownsRow (g + 1) 5 1 (.slice (some ⟨g', 0, none⟩) (bb.length + 1) cap') (bb.length + 1) (bvs bb ++ [.int .u8 x])) (hx : x = (b.toNat : Int)) :
    WsTo w g S (bb ++ [b]) (w1.setCell ⟨g, 0, none⟩ (.slice (some ⟨g', 0, none⟩) (bb.length + 1) cap')) := by
  subst hx
  have k1 : Kept S wr w1 := by
    refine (kept_grown hW hSl (fun _ _ => by simp)).trans (kept_grown hgr (fun k hk => by have := hSl k hk; have := hW.size; omega) (fun k hk e => hSr k e.symm hk))
  refine ⟨⟨hSg, fun k hk => ?_, some ⟨g', 0, none⟩, cap', ?_, ?_, fun k e hk => ?_⟩, (hb.trans k1).trans ⟨rfl, rfl, rfl, by simp [World.setCell], fun k hk => Below.heap_setCell _ _ _ k (fun e => hSg (by simp at e; rwa [← e]))⟩⟩
  · have := hSl k hk; have := k1.size; simp [World.setCell]; omega
  · have := hc1.set 0 (.slice (some ⟨g', 0, none⟩) (bb.length + 1) cap')
    simpa using this
  · have := ownsRow_setCell_below hown1 (a := ⟨g, 0, none⟩) (by show g < g + 1; omega) (.slice (some ⟨g', 0, none⟩) (bb.length + 1) cap')
    simpa [bvs_append, bvs, bv] using this
  · have e' : g' = k := by simpa [Value.ownBlock] using e
    rcases hat with h | h
    · exact hSr g' h (e' ▸ hk)
    · have := hSl k hk; have := hW.size; omega
/-- What holds at the head of put's loop. -/
def PutS (w : World) (g : Nat) (S : Nat → Prop) (bs : List UInt8) (k n : Nat) (j : Value) (wr : World) : Prop :=
  ∃ i : Nat, i ≤ k ∧ j = .int .i64 i ∧ WsTo w g S (bs ++ le i n) wr

set_option maxHeartbeats 1000000 in
set_option maxRecDepth 20000 in
theorem put8s (g n : Nat) (S : Nat → Prop) (bs : List UInt8) (w : World) (h : Ws w g S bs) (hl : bs.length ≤ 1099511627776) (hn : n < 256) :
    Calls Tryd.prog 70 #[.pointer (some ⟨g, 0, none⟩), .int .u8 n] w fun E w' => E = .returned (.tuple #[]) ∧ WsTo w g S (bs ++ le 1 n) w' := by
  have HN := Lib.hid hn
  clear hn
  go_enter Tryd.func70, Tryd.ntmps70
  go_wp2_with fail
  refine (width8 _).mono ?_
  rintro E w' ⟨rfl, rfl⟩
  go_wp2
  go_loopw [4, 8] (fun _ j wr => PutS w g S bs 1 n j wr) (fun _ j _ => 1 - (intOf j).toNat)
  case atStart => exact ⟨0, by omega, rfl, by simpa [le] using h, Kept.refl _ _⟩
  case round =>
    obtain ⟨i, hi, rfl, hto⟩ := hrel
    by_cases hlt : i < 1
    · have hll : (bs ++ le i n).length = bs.length + i := by rw [List.length_append, le_length]
      have hln : (bs ++ le i n).length + 1 ≤ 1099511627800 := by omega
      have HB := Lib.hid (le_snoc i n)
      clear hll
      generalize hbb : bs ++ le i n = bb at *
      have HBB := Lib.hid hbb
      clear hbb
      obtain ⟨⟨hSg, hSl, ao, cap, hc, hown, hSr⟩, hb⟩ := hto
      have HS := Lib.hid hSr
      have HSl := Lib.hid hSl
      clear hSr hSl
      have c0 : wr.cell? ⟨g, 0, none⟩ = some (.slice ao bb.length cap) := by rw [hc.cell]; rfl
      have f0 := hc.frozen 0
      obtain ⟨i0, hi0, hz0, hz1, hz2⟩ := info_parts info_u8
      have HI0 := Lib.hid hi0
      have HZ0 := Lib.hid hz0
      have HZ1 := Lib.hid hz1
      have HZ2 := Lib.hid hz2
      clear hi0 hz0 hz1 hz2
      have hb1 : bb.length + 1 ≤ maxLen := by simp only [maxLen]; omega
      have hb2 : (bb.length + 1) * 1 ≤ 140737488355328 := by omega
      have hgl := hc.lt
      have hne : some g ≠ (Value.slice ao bb.length cap).ownBlock := fun e => by have := (hown.lt g e.symm).1; omega
      have HNE := Lib.hid hne
      clear hne
      have e1 : IntKind.i64.wrap (8 * (i : Int)) = 8 * (i : Int) := IntWalk.i64_in _ (by omega)
      have e2 : (8 * (i : Int)).toNat = 8 * i := by omega
      have e3 : (0 : Int) ≤ 8 * (i : Int) := by omega
      go_wp2
      go_region_law (refine step_append_lies _ rfl (.tmp 15) (.tmp 22) 58 rfl (g + 1) 5 i0 (.int .u8 0) 1 1 Tryd.underlying58 HI0.out HZ0.out HZ1.out HZ2.out rfl (by decide) _ _ _ (by simp [Act.eval]) (hown.alloc _) ⟨wr.heap.size, 0, none⟩ 1 1 [_] (by simp [Act.eval]) rfl (cell_one_new _ _ _) (by simp [Value.oneCell']) (by decide) hb1 hb2 (by simp; omega) _ rfl ?_; intro g' cap' w1 hown1 hgr hat hlt1; have hc1 := Cells.grown (hc.alloc _).drew hgr HNE.out; have c1 : w1.cell? ⟨g, 0, none⟩ = some (.slice ao bb.length cap) := (by rw [hc1.cell]; rfl); have f1 := hc1.frozen 0)
      all_goals
        have HG := Lib.hid hgr
        have HA := Lib.hid hat
        clear hgr hat e1 e2 e3
        go_wp2
        go_roundw
        case rel =>
          refine ⟨i + 1, by omega, by go_num, ?_⟩
          rw [HB.out, ← List.append_assoc, HBB.out]
          have hnn := HN.out
          exact ws_push hb HSl.out hSg HS.out (grown_mk _ _) hc1 HG.out HA.out hown1 (by first | exact byte_of' n i (by omega) | exact byte_of n i)
        case measure => simp [intOf]; omega
    · have hx : i = 1 := by omega
      have HX := Lib.hid hx
      clear hx
      go_wp2
      go_end0
      exact ⟨rfl, by rw [← HX.out]; exact hto⟩
theorem wsU8 (g n : Nat) (S : Nat → Prop) (bs : List UInt8) (w : World) (h : Ws w g S bs) (hl : bs.length ≤ 1099511627776) (hn : n < 256) :
    Calls Tryd.prog 59 #[.pointer (some ⟨g, 0, none⟩), .int .u8 n] w fun E w' => E = .returned (.tuple #[]) ∧ WsTo w g S (bs ++ le 1 n) w' := by
  have HN := Lib.hid hn
  clear hn
  go_enter Tryd.func59, Tryd.ntmps59
  go_wp2_with fail
  refine (put8s g n S bs _ h hl HN.out).mono ?_
  rintro E w' ⟨rfl, hw⟩
  go_wp2
  go_end0
  exact ⟨rfl, hw⟩


set_option maxHeartbeats 1000000 in
set_option maxRecDepth 20000 in
theorem put16s (g n : Nat) (S : Nat → Prop) (bs : List UInt8) (w : World) (h : Ws w g S bs) (hl : bs.length ≤ 1099511627776) (hn : n < 65536) :
    Calls Tryd.prog 60 #[.pointer (some ⟨g, 0, none⟩), .int .u16 n] w fun E w' => E = .returned (.tuple #[]) ∧ WsTo w g S (bs ++ le 2 n) w' := by
  have HN := Lib.hid hn
  clear hn
  go_enter Tryd.func60, Tryd.ntmps60
  go_wp2_with fail
  refine (width16 _).mono ?_
  rintro E w' ⟨rfl, rfl⟩
  go_wp2
  go_loopw [4, 8] (fun _ j wr => PutS w g S bs 2 n j wr) (fun _ j _ => 2 - (intOf j).toNat)
  case atStart => exact ⟨0, by omega, rfl, by simpa [le] using h, Kept.refl _ _⟩
  case round =>
    obtain ⟨i, hi, rfl, hto⟩ := hrel
    by_cases hlt : i < 2
    · have hll : (bs ++ le i n).length = bs.length + i := by rw [List.length_append, le_length]
      have hln : (bs ++ le i n).length + 1 ≤ 1099511627800 := by omega
      have HB := Lib.hid (le_snoc i n)
      clear hll
      generalize hbb : bs ++ le i n = bb at *
      have HBB := Lib.hid hbb
      clear hbb
      obtain ⟨⟨hSg, hSl, ao, cap, hc, hown, hSr⟩, hb⟩ := hto
      have HS := Lib.hid hSr
      have HSl := Lib.hid hSl
      clear hSr hSl
      have c0 : wr.cell? ⟨g, 0, none⟩ = some (.slice ao bb.length cap) := by rw [hc.cell]; rfl
      have f0 := hc.frozen 0
      obtain ⟨i0, hi0, hz0, hz1, hz2⟩ := info_parts info_u8
      have HI0 := Lib.hid hi0
      have HZ0 := Lib.hid hz0
      have HZ1 := Lib.hid hz1
      have HZ2 := Lib.hid hz2
      clear hi0 hz0 hz1 hz2
      have hb1 : bb.length + 1 ≤ maxLen := by simp only [maxLen]; omega
      have hb2 : (bb.length + 1) * 1 ≤ 140737488355328 := by omega
      have hgl := hc.lt
      have hne : some g ≠ (Value.slice ao bb.length cap).ownBlock := fun e => by have := (hown.lt g e.symm).1; omega
      have HNE := Lib.hid hne
      clear hne
      have e1 : IntKind.i64.wrap (8 * (i : Int)) = 8 * (i : Int) := IntWalk.i64_in _ (by omega)
      have e2 : (8 * (i : Int)).toNat = 8 * i := by omega
      have e3 : (0 : Int) ≤ 8 * (i : Int) := by omega
      go_wp2
      go_region_law (refine step_append_lies _ rfl (.tmp 15) (.tmp 22) 58 rfl (g + 1) 5 i0 (.int .u8 0) 1 1 Tryd.underlying58 HI0.out HZ0.out HZ1.out HZ2.out rfl (by decide) _ _ _ (by simp [Act.eval]) (hown.alloc _) ⟨wr.heap.size, 0, none⟩ 1 1 [_] (by simp [Act.eval]) rfl (cell_one_new _ _ _) (by simp [Value.oneCell']) (by decide) hb1 hb2 (by simp; omega) _ rfl ?_; intro g' cap' w1 hown1 hgr hat hlt1; have hc1 := Cells.grown (hc.alloc _).drew hgr HNE.out; have c1 : w1.cell? ⟨g, 0, none⟩ = some (.slice ao bb.length cap) := (by rw [hc1.cell]; rfl); have f1 := hc1.frozen 0)
      all_goals
        have HG := Lib.hid hgr
        have HA := Lib.hid hat
        clear hgr hat e1 e2 e3
        go_wp2
        go_roundw
        case rel =>
          refine ⟨i + 1, by omega, by go_num, ?_⟩
          rw [HB.out, ← List.append_assoc, HBB.out]
          have hnn := HN.out
          exact ws_push hb HSl.out hSg HS.out (grown_mk _ _) hc1 HG.out HA.out hown1 (by first | exact byte_of' n i (by omega) | exact byte_of n i)
        case measure => simp [intOf]; omega
    · have hx : i = 2 := by omega
      have HX := Lib.hid hx
      clear hx
      go_wp2
      go_end0
      exact ⟨rfl, by rw [← HX.out]; exact hto⟩
theorem wsU16 (g n : Nat) (S : Nat → Prop) (bs : List UInt8) (w : World) (h : Ws w g S bs) (hl : bs.length ≤ 1099511627776) (hn : n < 65536) :
    Calls Tryd.prog 35 #[.pointer (some ⟨g, 0, none⟩), .int .u16 n] w fun E w' => E = .returned (.tuple #[]) ∧ WsTo w g S (bs ++ le 2 n) w' := by
  have HN := Lib.hid hn
  clear hn
  go_enter Tryd.func35, Tryd.ntmps35
  go_wp2_with fail
  refine (put16s g n S bs _ h hl HN.out).mono ?_
  rintro E w' ⟨rfl, hw⟩
  go_wp2
  go_end0
  exact ⟨rfl, hw⟩


set_option maxHeartbeats 1000000 in
set_option maxRecDepth 20000 in
theorem put32s (g n : Nat) (S : Nat → Prop) (bs : List UInt8) (w : World) (h : Ws w g S bs) (hl : bs.length ≤ 1099511627776) (hn : n < 4294967296) :
    Calls Tryd.prog 69 #[.pointer (some ⟨g, 0, none⟩), .int .u32 n] w fun E w' => E = .returned (.tuple #[]) ∧ WsTo w g S (bs ++ le 4 n) w' := by
  have HN := Lib.hid hn
  clear hn
  go_enter Tryd.func69, Tryd.ntmps69
  go_wp2_with fail
  refine (width32 _).mono ?_
  rintro E w' ⟨rfl, rfl⟩
  go_wp2
  go_loopw [4, 8] (fun _ j wr => PutS w g S bs 4 n j wr) (fun _ j _ => 4 - (intOf j).toNat)
  case atStart => exact ⟨0, by omega, rfl, by simpa [le] using h, Kept.refl _ _⟩
  case round =>
    obtain ⟨i, hi, rfl, hto⟩ := hrel
    by_cases hlt : i < 4
    · have hll : (bs ++ le i n).length = bs.length + i := by rw [List.length_append, le_length]
      have hln : (bs ++ le i n).length + 1 ≤ 1099511627800 := by omega
      have HB := Lib.hid (le_snoc i n)
      clear hll
      generalize hbb : bs ++ le i n = bb at *
      have HBB := Lib.hid hbb
      clear hbb
      obtain ⟨⟨hSg, hSl, ao, cap, hc, hown, hSr⟩, hb⟩ := hto
      have HS := Lib.hid hSr
      have HSl := Lib.hid hSl
      clear hSr hSl
      have c0 : wr.cell? ⟨g, 0, none⟩ = some (.slice ao bb.length cap) := by rw [hc.cell]; rfl
      have f0 := hc.frozen 0
      obtain ⟨i0, hi0, hz0, hz1, hz2⟩ := info_parts info_u8
      have HI0 := Lib.hid hi0
      have HZ0 := Lib.hid hz0
      have HZ1 := Lib.hid hz1
      have HZ2 := Lib.hid hz2
      clear hi0 hz0 hz1 hz2
      have hb1 : bb.length + 1 ≤ maxLen := by simp only [maxLen]; omega
      have hb2 : (bb.length + 1) * 1 ≤ 140737488355328 := by omega
      have hgl := hc.lt
      have hne : some g ≠ (Value.slice ao bb.length cap).ownBlock := fun e => by have := (hown.lt g e.symm).1; omega
      have HNE := Lib.hid hne
      clear hne
      have e1 : IntKind.i64.wrap (8 * (i : Int)) = 8 * (i : Int) := IntWalk.i64_in _ (by omega)
      have e2 : (8 * (i : Int)).toNat = 8 * i := by omega
      have e3 : (0 : Int) ≤ 8 * (i : Int) := by omega
      go_wp2
      go_region_law (refine step_append_lies _ rfl (.tmp 15) (.tmp 22) 58 rfl (g + 1) 5 i0 (.int .u8 0) 1 1 Tryd.underlying58 HI0.out HZ0.out HZ1.out HZ2.out rfl (by decide) _ _ _ (by simp [Act.eval]) (hown.alloc _) ⟨wr.heap.size, 0, none⟩ 1 1 [_] (by simp [Act.eval]) rfl (cell_one_new _ _ _) (by simp [Value.oneCell']) (by decide) hb1 hb2 (by simp; omega) _ rfl ?_; intro g' cap' w1 hown1 hgr hat hlt1; have hc1 := Cells.grown (hc.alloc _).drew hgr HNE.out; have c1 : w1.cell? ⟨g, 0, none⟩ = some (.slice ao bb.length cap) := (by rw [hc1.cell]; rfl); have f1 := hc1.frozen 0)
      all_goals
        have HG := Lib.hid hgr
        have HA := Lib.hid hat
        clear hgr hat e1 e2 e3
        go_wp2
        go_roundw
        case rel =>
          refine ⟨i + 1, by omega, by go_num, ?_⟩
          rw [HB.out, ← List.append_assoc, HBB.out]
          have hnn := HN.out
          exact ws_push hb HSl.out hSg HS.out (grown_mk _ _) hc1 HG.out HA.out hown1 (by first | exact byte_of' n i (by omega) | exact byte_of n i)
        case measure => simp [intOf]; omega
    · have hx : i = 4 := by omega
      have HX := Lib.hid hx
      clear hx
      go_wp2
      go_end0
      exact ⟨rfl, by rw [← HX.out]; exact hto⟩
set_option maxHeartbeats 1000000 in
set_option maxRecDepth 20000 in
theorem put64s (g n : Nat) (S : Nat → Prop) (bs : List UInt8) (w : World) (h : Ws w g S bs) (hl : bs.length ≤ 1099511627776) (hn : n < 18446744073709551616) :
    Calls Tryd.prog 57 #[.pointer (some ⟨g, 0, none⟩), .int .u64 n] w fun E w' => E = .returned (.tuple #[]) ∧ WsTo w g S (bs ++ le 8 n) w' := by
  have HN := Lib.hid hn
  clear hn
  go_enter Tryd.func57, Tryd.ntmps57
  go_wp2_with fail
  refine (width64 _).mono ?_
  rintro E w' ⟨rfl, rfl⟩
  go_wp2
  go_loopw [4, 8] (fun _ j wr => PutS w g S bs 8 n j wr) (fun _ j _ => 8 - (intOf j).toNat)
  case atStart => exact ⟨0, by omega, rfl, by simpa [le] using h, Kept.refl _ _⟩
  case round =>
    obtain ⟨i, hi, rfl, hto⟩ := hrel
    by_cases hlt : i < 8
    · have hll : (bs ++ le i n).length = bs.length + i := by rw [List.length_append, le_length]
      have hln : (bs ++ le i n).length + 1 ≤ 1099511627800 := by omega
      have HB := Lib.hid (le_snoc i n)
      clear hll
      generalize hbb : bs ++ le i n = bb at *
      have HBB := Lib.hid hbb
      clear hbb
      obtain ⟨⟨hSg, hSl, ao, cap, hc, hown, hSr⟩, hb⟩ := hto
      have HS := Lib.hid hSr
      have HSl := Lib.hid hSl
      clear hSr hSl
      have c0 : wr.cell? ⟨g, 0, none⟩ = some (.slice ao bb.length cap) := by rw [hc.cell]; rfl
      have f0 := hc.frozen 0
      obtain ⟨i0, hi0, hz0, hz1, hz2⟩ := info_parts info_u8
      have HI0 := Lib.hid hi0
      have HZ0 := Lib.hid hz0
      have HZ1 := Lib.hid hz1
      have HZ2 := Lib.hid hz2
      clear hi0 hz0 hz1 hz2
      have hb1 : bb.length + 1 ≤ maxLen := by simp only [maxLen]; omega
      have hb2 : (bb.length + 1) * 1 ≤ 140737488355328 := by omega
      have hgl := hc.lt
      have hne : some g ≠ (Value.slice ao bb.length cap).ownBlock := fun e => by have := (hown.lt g e.symm).1; omega
      have HNE := Lib.hid hne
      clear hne
      have e1 : IntKind.i64.wrap (8 * (i : Int)) = 8 * (i : Int) := IntWalk.i64_in _ (by omega)
      have e2 : (8 * (i : Int)).toNat = 8 * i := by omega
      have e3 : (0 : Int) ≤ 8 * (i : Int) := by omega
      go_wp2
      go_region_law (refine step_append_lies _ rfl (.tmp 15) (.tmp 21) 58 rfl (g + 1) 5 i0 (.int .u8 0) 1 1 Tryd.underlying58 HI0.out HZ0.out HZ1.out HZ2.out rfl (by decide) _ _ _ (by simp [Act.eval]) (hown.alloc _) ⟨wr.heap.size, 0, none⟩ 1 1 [_] (by simp [Act.eval]) rfl (cell_one_new _ _ _) (by simp [Value.oneCell']) (by decide) hb1 hb2 (by simp; omega) _ rfl ?_; intro g' cap' w1 hown1 hgr hat hlt1; have hc1 := Cells.grown (hc.alloc _).drew hgr HNE.out; have c1 : w1.cell? ⟨g, 0, none⟩ = some (.slice ao bb.length cap) := (by rw [hc1.cell]; rfl); have f1 := hc1.frozen 0)
      all_goals
        have HG := Lib.hid hgr
        have HA := Lib.hid hat
        clear hgr hat e1 e2 e3
        go_wp2
        go_roundw
        case rel =>
          refine ⟨i + 1, by omega, by go_num, ?_⟩
          rw [HB.out, ← List.append_assoc, HBB.out]
          have hnn := HN.out
          exact ws_push hb HSl.out hSg HS.out (grown_mk _ _) hc1 HG.out HA.out hown1 (by first | exact byte_of' n i (by omega) | exact byte_of n i)
        case measure => simp [intOf]; omega
    · have hx : i = 8 := by omega
      have HX := Lib.hid hx
      clear hx
      go_wp2
      go_end0
      exact ⟨rfl, by rw [← HX.out]; exact hto⟩
theorem wsU64 (g n : Nat) (S : Nat → Prop) (bs : List UInt8) (w : World) (h : Ws w g S bs) (hl : bs.length ≤ 1099511627776) (hn : n < 18446744073709551616) :
    Calls Tryd.prog 31 #[.pointer (some ⟨g, 0, none⟩), .int .u64 n] w fun E w' => E = .returned (.tuple #[]) ∧ WsTo w g S (bs ++ le 8 n) w' := by
  have HN := Lib.hid hn
  clear hn
  go_enter Tryd.func31, Tryd.ntmps31
  go_wp2_with fail
  refine (put64s g n S bs _ h hl HN.out).mono ?_
  rintro E w' ⟨rfl, hw⟩
  go_wp2
  go_end0
  exact ⟨rfl, hw⟩

theorem wsI32 (g n : Nat) (S : Nat → Prop) (z : Int) (bs : List UInt8) (w : World) (h : Ws w g S bs) (hl : bs.length ≤ 1099511627776) (hn : n < 4294967296) (hz : IntKind.u32.wrap z = (n : Int)) :
    Calls Tryd.prog 58 #[.pointer (some ⟨g, 0, none⟩), .int .i32 z] w fun E w' => E = .returned (.tuple #[]) ∧ WsTo w g S (bs ++ le 4 n) w' := by
  have HN := Lib.hid hn
  clear hn
  go_enter Tryd.func58, Tryd.ntmps58
  go_wp2_with fail
  refine (put32s g n S bs _ h hl HN.out).mono ?_
  rintro E w' ⟨rfl, hw⟩
  go_wp2
  go_end0
  exact ⟨rfl, hw⟩

def VarS (w : World) (g : Nat) (S : Nat → Prop) (n : Nat) (bs : List UInt8) (v : Value) (wr : World) : Prop :=
  ∃ (m : Nat) (done : List UInt8), v = .int .u64 m ∧ VrAt n done m ∧ WsTo w g S (bs ++ done) wr

set_option maxHeartbeats 1000000 in
set_option maxRecDepth 20000 in
theorem wsVar (g n : Nat) (S : Nat → Prop) (bs : List UInt8) (w : World) (h : Ws w g S bs) (hl : bs.length ≤ 1099511627700) (hn : n < 18446744073709551616) :
    Calls Tryd.prog 33 #[.pointer (some ⟨g, 0, none⟩), .int .u64 n] w fun E w' => E = .returned (.tuple #[]) ∧ WsTo w g S (bs ++ vr n) w' := by
  have HN := Lib.hid hn
  clear hn
  go_enter Tryd.func33, Tryd.ntmps33
  go_wp2
  go_loopw [1] (fun v wr => VarS w g S n bs v wr) (fun v _ => (intOf v).toNat)
  case atStart => exact ⟨n, [], rfl, vrAt_start HN.out, by simpa using ws_to h⟩
  case round =>
    obtain ⟨m, done, rfl, hat, hto⟩ := hrel
    have hdl := vrAt_len hat
    have hln : (bs ++ done).length ≤ 1099511627776 := by rw [List.length_append]; omega
    have HLN := Lib.hid hln
    clear hln
    have hwr := hto.1
    by_cases hm : 128 ≤ m
    · obtain ⟨c, hc1, hc2, hc3⟩ := or_top m
      have HC := Lib.hid hc3
      clear hc3
      go_wp2_with fail
      refine (wsU8 g c S _ _ hwr HLN.out (by omega)).mono ?_
      rintro E w1 ⟨rfl, hw1⟩
      have HW := Lib.hid (wsTo_trans hto hw1)
      clear hw1
      go_wp2
      go_roundw
      case rel => exact ⟨m / 128, done ++ le 1 c, by go_num, vrAt_next hat hm HC.out, by rw [← List.append_assoc]; exact HW.out⟩
      case measure => simp [intOf]; omega
    · obtain ⟨c, hc⟩ : ∃ c : Nat, c = m := ⟨m, rfl⟩
      go_wp2_with fail
      refine (wsU8 g m S _ _ hwr HLN.out (by omega)).mono ?_
      rintro E w1 ⟨rfl, hw1⟩
      have HW := Lib.hid (wsTo_trans hto hw1)
      clear hw1 hc
      go_wp2
      go_end0
      refine ⟨rfl, ?_⟩
      rw [vrAt_last hat (by omega) rfl, ← List.append_assoc]
      exact HW.out

set_option maxRecDepth 100000 in
theorem wsBytes (g : Nat) (S : Nat → Prop) (bs : List UInt8) (w : World) (h : Ws w g S bs) :
    Calls Tryd.prog 36 #[.pointer (some ⟨g, 0, none⟩)] w fun E w' => E = .returned (.string (str bs)) ∧ w = w' := by
  obtain ⟨_, _, ao, cap, hc, hown, _⟩ := h
  have c0 : w.cell? ⟨g, 0, none⟩ = some (.slice ao bs.length cap) := by rw [hc.cell]; rfl
  have hcv : (convert 58 9 (.slice ao bs.length cap)).run Tryd.prog w = .ok (.string (str bs)) w := by
    rcases hown.2 with ⟨he, h0⟩ | ⟨g', cap', cur, he, _, hh, _⟩
    · have : bs = [] := List.eq_nil_of_length_eq_zero h0
      subst this
      injection he with e1 e2 e3
      subst e1 e3
      exact Lib.run_convert_nil_bytes w _ _ 5 0 Tryd.underlying58 Tryd.underlying5 Tryd.underlying9
    · injection he with e1 e2 e3
      subst e1 e3
      refine run_convert_bytes_back w _ _ 5 _ _ bs Tryd.underlying58 Tryd.underlying5 Tryd.underlying9 (fun j hj => ?_)
      exact hown.cells (g := g') rfl j _ (by simp [bvs, bv, List.getElem?_eq_getElem hj])
  go_enter Tryd.func36, Tryd.ntmps36
  go_wp2
  go_ret
  exact ⟨rfl, rfl⟩
end Go.Proofs.YtbmkmmkebophpaaDoor
