/- package codec's Writer among other things of the call's own: what a write turns besides the writer's block is its own row alone, from block B on. Conditions: as in the texts of layer 2. -/
import Derived.Test.YtkhecaohbmlnlaaWrB
namespace Go.Proofs.Ytkhecaohbmlnlaa
open Go.RowKit
set_option linter.unusedVariables false

/-- Nothing below B has turned, but for block g. -/
structure Bes (g B : Nat) (w w' : World) : Prop where
  os : w'.os = w.os
  tape : w'.tape = w.tape
  output : w'.output = w.output
  size : w.heap.size ≤ w'.heap.size
  block : ∀ k, k < B → k ≠ g → w'.heap[k]? = w.heap[k]?
theorem Bes.refl (g B : Nat) (w : World) : Bes g B w w := ⟨rfl, rfl, rfl, Nat.le_refl _, fun _ _ _ => rfl⟩
theorem Bes.trans {g B : Nat} {a b c : World} (h : Bes g B a b) (k : Bes g B b c) : Bes g B a c :=
  ⟨k.os.trans h.os, k.tape.trans h.tape, k.output.trans h.output, Nat.le_trans h.size k.size, fun i hi hg => (k.block i hi hg).trans (h.block i hi hg)⟩
theorem bes_of {g B : Nat} {w w' : World} (h : Below B w w') : Bes g B w w' := ⟨h.os, h.tape, h.output, h.size, fun k hk _ => h.block k hk⟩
theorem below_of_bes {g B : Nat} {w w' : World} (h : Bes g B w w') (hg : g ≤ B) : Below g w w' := ⟨h.os, h.tape, h.output, h.size, fun k hk => h.block k (by omega) (by omega)⟩
theorem grown_of_bes {g B : Nat} {w w' : World} (h : Bes g B w w') (hB : w.heap.size ≤ B) : w.grownBy w' (some g) :=
  ⟨h.os, h.tape, h.output, h.size, fun k hk hr => h.block k (by omega) (fun e => hr (by rw [e]))⟩
/-- The writer's block g, and its row among the blocks from B on. -/
def Wq (w : World) (g B : Nat) (bs : List UInt8) : Prop :=
  g < B ∧ B ≤ w.heap.size ∧ ∃ ao cap, Cells w g 50 #[.slice ao bs.length cap] ∧ w.ownsRow B 5 1 (.slice ao bs.length cap) bs.length (bvs bs)
def WqTo (w : World) (g B : Nat) (bs : List UInt8) (w' : World) : Prop := Wq w' g B bs ∧ Bes g B w w'
theorem wq_to {w : World} {g B : Nat} {bs : List UInt8} (h : Wq w g B bs) : WqTo w g B bs w := ⟨h, Bes.refl _ _ _⟩
theorem wqTo_trans {w w1 w2 : World} {g B : Nat} {bs bs2 : List UInt8} (h : WqTo w g B bs w1) (k : WqTo w1 g B bs2 w2) : WqTo w g B bs2 w2 := ⟨k.1, h.2.trans k.2⟩
theorem wq_push {w wr W w1 : World} {g B g' cap cap' : Nat} {ao : Option Addr} {bb : List UInt8} {x : Int} {b : UInt8} (hgB : g < B) (hb : Bes g B w wr) (hBl : B ≤ W.heap.size) (hW : Below B wr W) (hc1 : Cells w1 g 50 #[.slice ao bb.length cap])
    (hown : wr.ownsRow B 5 1 (.slice ao bb.length cap) bb.length (bvs bb)) (hgr : W.grownBy w1 (Value.slice ao bb.length cap).ownBlock)
    (hown1 : w1.ownsRow B 5 1 (.slice (some ⟨g', 0, none⟩) (bb.length + 1) cap') (bb.length + 1) (bvs bb ++ [.int .u8 x])) (hx : x = (b.toNat : Int)) :
    WqTo w g B (bb ++ [b]) (w1.setCell ⟨g, 0, none⟩ (.slice (some ⟨g', 0, none⟩) (bb.length + 1) cap')) := by
  subst hx
  have h1 : Below B wr w1 := hW.grown hgr hBl (fun k e => (hown.lt k e).1)
  refine ⟨⟨hgB, by have := hgr.size; simp [World.setCell]; omega, some ⟨g', 0, none⟩, cap', ?_, ?_⟩, hb.trans ((bes_of h1).trans ⟨rfl, rfl, rfl, by simp [World.setCell], fun k _ hk => Below.heap_setCell _ _ _ k (by simpa using hk)⟩)⟩
  · have := hc1.set 0 (.slice (some ⟨g', 0, none⟩) (bb.length + 1) cap')
    simpa using this
  · have := ownsRow_setCell_below hown1 (a := ⟨g, 0, none⟩) (by show g < B; omega) (.slice (some ⟨g', 0, none⟩) (bb.length + 1) cap')
    simpa [bvs_append, bvs, bv] using this
/-- What holds at the head of put's loop. -/
def PutQ (w : World) (g B : Nat) (bs : List UInt8) (k n : Nat) (j : Value) (wr : World) : Prop :=
  ∃ i : Nat, i ≤ k ∧ j = .int .i64 i ∧ WqTo w g B (bs ++ le i n) wr

set_option maxHeartbeats 1000000 in
set_option maxRecDepth 20000 in
theorem put8q (g B n : Nat) (bs : List UInt8) (w : World) (h : Wq w g B bs) (hl : bs.length ≤ 1099511627776) (hn : n < 256) :
    Calls Try.prog 51 #[.pointer (some ⟨g, 0, none⟩), .int .u8 n] w fun E w' => E = .returned (.tuple #[]) ∧ WqTo w g B (bs ++ le 1 n) w' := by
  have HN := Lib.hid hn
  clear hn
  go_enter Try.func51, Try.ntmps51
  go_wp2_with fail
  refine (width8 _).mono ?_
  rintro E w' ⟨rfl, rfl⟩
  go_wp2
  go_loopw [4, 8] (fun _ j wr => PutQ w g B bs 1 n j wr) (fun _ j _ => 1 - (intOf j).toNat)
  case atStart => exact ⟨0, by omega, rfl, by simpa [le] using h, Bes.refl _ _ _⟩
  case round =>
    obtain ⟨i, hi, rfl, hto⟩ := hrel
    by_cases hlt : i < 1
    · have hll : (bs ++ le i n).length = bs.length + i := by rw [List.length_append, le_length]
      have hln : (bs ++ le i n).length + 1 ≤ 1099511627800 := by omega
      have HB := Lib.hid (le_snoc i n)
      clear hll
      generalize hbb : bs ++ le i n = bb at *
      have HBB := Lib.hid hbb
      clear hbb
      obtain ⟨⟨hgB, hBl, ao, cap, hc, hown⟩, hb⟩ := hto
      have c0 : wr.cell? ⟨g, 0, none⟩ = some (.slice ao bb.length cap) := by rw [hc.cell]; rfl
      have f0 := hc.frozen 0
      obtain ⟨i0, hi0, hz0, hz1, hz2⟩ := info_parts info_u8
      have HI0 := Lib.hid hi0
      have HZ0 := Lib.hid hz0
      have HZ1 := Lib.hid hz1
      have HZ2 := Lib.hid hz2
      clear hi0 hz0 hz1 hz2
      have hb1 : bb.length + 1 ≤ maxLen := by simp only [maxLen]; omega
      have hb2 : (bb.length + 1) * 1 ≤ 140737488355328 := by omega
      have hgl := hc.lt
      have hne : some g ≠ (Value.slice ao bb.length cap).ownBlock := fun e => by have := (hown.lt g e.symm).1; omega
      have HNE := Lib.hid hne
      clear hne
      have e1 : IntKind.i64.wrap (8 * (i : Int)) = 8 * (i : Int) := IntWalk.i64_in _ (by omega)
      have e2 : (8 * (i : Int)).toNat = 8 * i := by omega
      have e3 : (0 : Int) ≤ 8 * (i : Int) := by omega
      go_wp2
      go_region_law (refine step_append_lies _ rfl (.tmp 15) (.tmp 22) 48 rfl B 5 i0 (.int .u8 0) 1 1 Try.underlying48 HI0.out HZ0.out HZ1.out HZ2.out rfl (by decide) _ _ _ (by simp [Act.eval]) (hown.alloc _) ⟨wr.heap.size, 0, none⟩ 1 1 [_] (by simp [Act.eval]) rfl (cell_one_new _ _ _) (by simp [Value.oneCell']) (by decide) hb1 hb2 (by simp; omega) _ rfl ?_; intro g' cap' w1 hown1 hgr hat hlt1; have hc1 := Cells.grown (hc.alloc _).drew hgr HNE.out; have c1 : w1.cell? ⟨g, 0, none⟩ = some (.slice ao bb.length cap) := (by rw [hc1.cell]; rfl); have f1 := hc1.frozen 0)
      all_goals
        have HG := Lib.hid hgr
        have HA := Lib.hid hat
        clear hgr hat e1 e2 e3
        go_wp2
        go_roundw
        case rel =>
          refine ⟨i + 1, by omega, by go_num, ?_⟩
          rw [HB.out, ← List.append_assoc, HBB.out]
          have hnn := HN.out
          exact wq_push hgB hb (by simp; omega) (((Below.refl B wr).alloc (by omega) _).drew) hc1 hown HG.out hown1 (by first | exact byte_of' n i (by omega) | exact byte_of n i)
        case measure => simp [intOf]; omega
    · have hx : i = 1 := by omega
      have HX := Lib.hid hx
      clear hx
      go_wp2
      go_end0
      exact ⟨rfl, by rw [← HX.out]; exact hto⟩
theorem wrU8q (g B n : Nat) (bs : List UInt8) (w : World) (h : Wq w g B bs) (hl : bs.length ≤ 1099511627776) (hn : n < 256) :
    Calls Try.prog 45 #[.pointer (some ⟨g, 0, none⟩), .int .u8 n] w fun E w' => E = .returned (.tuple #[]) ∧ WqTo w g B (bs ++ le 1 n) w' := by
  have HN := Lib.hid hn
  clear hn
  go_enter Try.func45, Try.ntmps45
  go_wp2_with fail
  refine (put8q g B n bs _ h hl HN.out).mono ?_
  rintro E w' ⟨rfl, hw⟩
  go_wp2
  go_end0
  exact ⟨rfl, hw⟩

def VarQ (w : World) (g B n : Nat) (bs : List UInt8) (v : Value) (wr : World) : Prop :=
  ∃ (m : Nat) (done : List UInt8), v = .int .u64 m ∧ VrAt n done m ∧ WqTo w g B (bs ++ done) wr

set_option maxHeartbeats 1000000 in
set_option maxRecDepth 20000 in
theorem wrVarq (g B n : Nat) (bs : List UInt8) (w : World) (h : Wq w g B bs) (hl : bs.length ≤ 1099511627700) (hn : n < 18446744073709551616) :
    Calls Try.prog 32 #[.pointer (some ⟨g, 0, none⟩), .int .u64 n] w fun E w' => E = .returned (.tuple #[]) ∧ WqTo w g B (bs ++ vr n) w' := by
  have HN := Lib.hid hn
  clear hn
  go_enter Try.func32, Try.ntmps32
  go_wp2
  go_loopw [1] (fun v wr => VarQ w g B n bs v wr) (fun v _ => (intOf v).toNat)
  case atStart => exact ⟨n, [], rfl, vrAt_start HN.out, by simpa using wq_to h⟩
  case round =>
    obtain ⟨m, done, rfl, hat, hto⟩ := hrel
    have hdl := vrAt_len hat
    have hln : (bs ++ done).length ≤ 1099511627776 := by rw [List.length_append]; omega
    have HLN := Lib.hid hln
    clear hln
    have hwr := hto.1
    by_cases hm : 128 ≤ m
    · obtain ⟨c, hc1, hc2, hc3⟩ := or_top m
      have HC := Lib.hid hc3
      clear hc3
      go_wp2_with fail
      refine (wrU8q g B c _ _ hwr HLN.out (by omega)).mono ?_
      rintro E w1 ⟨rfl, hw1⟩
      have HW := Lib.hid (wqTo_trans hto hw1)
      clear hw1
      go_wp2
      go_roundw
      case rel => exact ⟨m / 128, done ++ le 1 c, by go_num, vrAt_next hat hm HC.out, by rw [← List.append_assoc]; exact HW.out⟩
      case measure => simp [intOf]; omega
    · obtain ⟨c, hc⟩ : ∃ c : Nat, c = m := ⟨m, rfl⟩
      go_wp2_with fail
      refine (wrU8q g B m _ _ hwr HLN.out (by omega)).mono ?_
      rintro E w1 ⟨rfl, hw1⟩
      have HW := Lib.hid (wqTo_trans hto hw1)
      clear hw1 hc
      go_wp2
      go_end0
      refine ⟨rfl, ?_⟩
      rw [vrAt_last hat (by omega) rfl, ← List.append_assoc]
      exact HW.out

theorem wqBytes (g B : Nat) (bs : List UInt8) (w : World) (h : Wq w g B bs) :
    Calls Try.prog 34 #[.pointer (some ⟨g, 0, none⟩)] w fun E w' => E = .returned (.string (str bs)) ∧ w = w' := by
  obtain ⟨_, _, ao, cap, hc, hown⟩ := h
  have c0 : w.cell? ⟨g, 0, none⟩ = some (.slice ao bs.length cap) := by rw [hc.cell]; rfl
  have hcv : (convert 48 9 (.slice ao bs.length cap)).run Try.prog w = .ok (.string (str bs)) w := by
    rcases hown.2 with ⟨he, h0⟩ | ⟨g', cap', cur, he, _, hh, _⟩
    · have : bs = [] := List.eq_nil_of_length_eq_zero h0
      subst this
      injection he with e1 e2 e3
      subst e1 e3
      exact Lib.run_convert_nil_bytes w _ _ 5 0 Try.underlying48 Try.underlying5 Try.underlying9
    · injection he with e1 e2 e3
      subst e1 e3
      refine run_convert_bytes_back w _ _ 5 _ _ bs Try.underlying48 Try.underlying5 Try.underlying9 (fun j hj => ?_)
      exact hown.cells (g := g') rfl j _ (by simp [bvs, bv, List.getElem?_eq_getElem hj])
  go_enter Try.func34, Try.ntmps34
  go_wp2
  go_ret
  exact ⟨rfl, rfl⟩
end Go.Proofs.Ytkhecaohbmlnlaa
