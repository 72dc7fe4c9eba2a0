/- The functions of package codec that write, as the walk of the program's text gives them: one contract each. Conditions: the writer lies at a block of its own, its row behind it; it holds 2^40 bytes at most. -/
import Derived.Test.YtbmkmmkebophpaaDoorRdB
import Derived.Deep.RegionLaw
namespace Go.Proofs.YtbmkmmkebophpaaDoor
open Go.RowKit
set_option linter.unusedVariables false

/-- The writer's block g, and its row behind it. -/
def Wr (w : World) (g : Nat) (bs : List UInt8) : Prop :=
  ∃ ao cap, Cells w g 60 #[.slice ao bs.length cap] ∧ w.ownsRow (g + 1) 5 1 (.slice ao bs.length cap) bs.length (bvs bs)
def WrTo (w : World) (g : Nat) (bs : List UInt8) (w' : World) : Prop := Wr w' g bs ∧ Below g w w'
theorem wr_to {w : World} {g : Nat} {bs : List UInt8} (h : Wr w g bs) : WrTo w g bs w := ⟨h, Below.refl _ _⟩
theorem wrTo_trans {w w1 w2 : World} {g : Nat} {bs bs2 : List UInt8} (h : WrTo w g bs w1) (k : WrTo w1 g bs2 w2) : WrTo w g bs2 w2 := ⟨k.1, h.2.trans k.2⟩
theorem wr_lt {w : World} {g : Nat} {bs : List UInt8} (h : Wr w g bs) : g < w.heap.size := by obtain ⟨_, _, hc, _⟩ := h; exact hc.lt
/-- What turns no block from g on (but for new ones) leaves a writer as it is. -/
theorem wr_on {w w' : World} {g r : Nat} {bs : List UInt8} (h : Wr w g bs) (k : w.grownBy w' (some r)) (hr : r < g) : Wr w' g bs := by
  obtain ⟨ao, cap, hc, ho⟩ := h
  exact ⟨ao, cap, hc.grown k (by simp; omega), ho.kept k (by
    rcases ho.2 with ⟨he, _⟩ | ⟨g', cap', cur, he, hg, _⟩
    · rw [he]; exact .inl rfl
    · rw [he]; exact .inr (by simp [Value.ownBlock]; omega))⟩
theorem wr_on0 {w w' : World} {g : Nat} {bs : List UInt8} (h : Wr w g bs) (k : w.grownBy w' none) : Wr w' g bs := by
  obtain ⟨ao, cap, hc, ho⟩ := h
  exact ⟨ao, cap, hc.grown k (by simp), ho.kept k (by
    rcases ho.2 with ⟨he, _⟩ | ⟨g', cap', cur, he, hg, _⟩
    · rw [he]; exact .inl rfl
    · rw [he]; exact .inr (by simp [Value.ownBlock]))⟩
theorem wr_new (w : World) : Wr (w.alloc (.cells #[.slice none 0 0] 60)) w.heap.size [] :=
  ⟨none, 0, Cells.made w _ _, World.ownsRow_nil _ _ _ _⟩
theorem info_u8 : (Tryd.prog.info? 5).map (fun i => (i.zero, i.size, i.bytes)) = some (some (.int .u8 0), 1, 1) := by kernel_rfl
theorem le_snoc : ∀ (k n : Nat), le (k + 1) n = le k n ++ [UInt8.ofNat (n / 256 ^ k % 256)]
  | 0, n => by simp [le]
  | k + 1, n => by
    rw [le, le_snoc k (n / 256)]
    simp [le, Nat.pow_succ, Nat.div_div_eq_div_mul, Nat.mul_comm]
theorem byte_of (n i : Nat) : IntKind.u8.wrap ((n : Int) / 2 ^ (8 * i)) = ((UInt8.ofNat (n / 256 ^ i % 256)).toNat : Int) := by
  have hp : 256 ^ i = 2 ^ (8 * i) := by rw [show (256 : Nat) = 2 ^ 8 from rfl, ← Nat.pow_mul]
  rw [hp]
  generalize 8 * i = j
  have h1 : (UInt8.ofNat (n / 2 ^ j % 256)).toNat = n / 2 ^ j % 256 := by rw [UInt8.toNat_ofNat']; exact Nat.mod_mod _ _
  have h2 : ((n : Int) / 2 ^ j) = ((n / 2 ^ j : Nat) : Int) := by rw [Int.natCast_ediv, Int.natCast_pow]; rfl
  rw [h1, IntKind.wrap_u8', h2]
  omega
theorem byte_of' (n i : Nat) (hn : n < 18446744073709551616) : IntKind.u8.wrap (IntKind.u64.wrap (n : Int) / 2 ^ (8 * i)) = ((UInt8.ofNat (n / 256 ^ i % 256)).toNat : Int) := by
  rw [u64_id _ (by omega) (by omega), byte_of]
theorem wr_put {w wr W w1 : World} {g cap cap' : Nat} {ao ao' : Option Addr} {bb cc : List UInt8} (hb : Below g w wr) (hgl : g < W.heap.size) (hW : Below g wr W) (hc1 : Cells w1 g 60 #[.slice ao bb.length cap])
    (hown : wr.ownsRow (g + 1) 5 1 (.slice ao bb.length cap) bb.length (bvs bb)) (hgr : W.grownBy w1 (Value.slice ao bb.length cap).ownBlock)
    (hown1 : w1.ownsRow (g + 1) 5 1 (.slice ao' (bb.length + cc.length) cap') (bb.length + cc.length) (bvs bb ++ bvs cc)) :
    WrTo w g (bb ++ cc) (w1.setCell ⟨g, 0, none⟩ (.slice ao' (bb.length + cc.length) cap')) := by
  refine ⟨⟨ao', cap', ?_, ?_⟩, ((hb.trans hW).grown hgr (by omega) (fun k e => by have := (hown.lt k e).1; omega)).setCell (Nat.le_refl _) _⟩
  · have := hc1.set 0 (.slice ao' (bb.length + cc.length) cap')
    simpa using this
  · have := ownsRow_setCell_below hown1 (a := ⟨g, 0, none⟩) (by show g < g + 1; omega) (.slice ao' (bb.length + cc.length) cap')
    simpa [bvs_append] using this
theorem wr_push {w wr W w1 : World} {g g' cap cap' : Nat} {ao : Option Addr} {bb : List UInt8} {x : Int} {b : UInt8} (hb : Below g w wr) (hgl : g < W.heap.size) (hW : Below g wr W) (hc1 : Cells w1 g 60 #[.slice ao bb.length cap])
    (hown : wr.ownsRow (g + 1) 5 1 (.slice ao bb.length cap) bb.length (bvs bb)) (hgr : W.grownBy w1 (Value.slice ao bb.length cap).ownBlock)
    (hown1 : w1.ownsRow (g + 1) 5 1 (.slice (some ⟨g', 0, none⟩) (bb.length + 1) cap') (bb.length + 1) (bvs bb ++ [.int .u8 x])) (hx : x = (b.toNat : Int)) :
    WrTo w g (bb ++ [b]) (w1.setCell ⟨g, 0, none⟩ (.slice (some ⟨g', 0, none⟩) (bb.length + 1) cap')) := by
  subst hx
  exact wr_put (cc := [b]) hb hgl hW hc1 hown hgr hown1
/-- What holds at the head of put's loop. -/
def PutRel (w : World) (g : Nat) (bs : List UInt8) (k n : Nat) (j : Value) (wr : World) : Prop :=
  ∃ i : Nat, i ≤ k ∧ j = .int .i64 i ∧ WrTo w g (bs ++ le i n) wr

set_option maxHeartbeats 1000000 in
set_option maxRecDepth 20000 in
theorem put8 (g n : Nat) (bs : List UInt8) (w : World) (h : Wr w g bs) (hl : bs.length ≤ 1099511627776) (hn : n < 256) :
    Calls Tryd.prog 70 #[.pointer (some ⟨g, 0, none⟩), .int .u8 n] w fun E w' => E = .returned (.tuple #[]) ∧ WrTo w g (bs ++ le 1 n) w' := by
  have HN := Lib.hid hn
  clear hn
  go_enter Tryd.func70, Tryd.ntmps70
  go_wp2_with fail
  refine (width8 _).mono ?_
  rintro E w' ⟨rfl, rfl⟩
  go_wp2
  go_loopw [4, 8] (fun _ j wr => PutRel w g bs 1 n j wr) (fun _ j _ => 1 - (intOf j).toNat)
  case atStart => exact ⟨0, by omega, rfl, by simpa [le] using h, Below.refl _ _⟩
  case round =>
    obtain ⟨i, hi, rfl, hto⟩ := hrel
    by_cases hlt : i < 1
    · have hll : (bs ++ le i n).length = bs.length + i := by rw [List.length_append, le_length]
      have hln : (bs ++ le i n).length + 1 ≤ 1099511627800 := by omega
      have HB := Lib.hid (le_snoc i n)
      clear hll
      generalize hbb : bs ++ le i n = bb at *
      have HBB := Lib.hid hbb
      clear hbb
      obtain ⟨⟨ao, cap, hc, hown⟩, hb⟩ := hto
      have c0 : wr.cell? ⟨g, 0, none⟩ = some (.slice ao bb.length cap) := by rw [hc.cell]; rfl
      have f0 := hc.frozen 0
      obtain ⟨i0, hi0, hz0, hz1, hz2⟩ := info_parts info_u8
      have HI0 := Lib.hid hi0
      have HZ0 := Lib.hid hz0
      have HZ1 := Lib.hid hz1
      have HZ2 := Lib.hid hz2
      clear hi0 hz0 hz1 hz2
      have hb1 : bb.length + 1 ≤ maxLen := by simp only [maxLen]; omega
      have hb2 : (bb.length + 1) * 1 ≤ 140737488355328 := by omega
      have hgl := hc.lt
      have hne : some g ≠ (Value.slice ao bb.length cap).ownBlock := fun e => by have := (hown.lt g e.symm).1; omega
      have HNE := Lib.hid hne
      clear hne
      have e1 : IntKind.i64.wrap (8 * (i : Int)) = 8 * (i : Int) := IntWalk.i64_in _ (by omega)
      have e2 : (8 * (i : Int)).toNat = 8 * i := by omega
      have e3 : (0 : Int) ≤ 8 * (i : Int) := by omega
      go_wp2
      go_region_law (refine step_append_lies _ rfl (.tmp 15) (.tmp 22) 58 rfl (g + 1) 5 i0 (.int .u8 0) 1 1 Tryd.underlying58 HI0.out HZ0.out HZ1.out HZ2.out rfl (by decide) _ _ _ (by simp [Act.eval]) (hown.alloc _) ⟨wr.heap.size, 0, none⟩ 1 1 [_] (by simp [Act.eval]) rfl (cell_one_new _ _ _) (by simp [Value.oneCell']) (by decide) hb1 hb2 (by simp; omega) _ rfl ?_; intro g' cap' w1 hown1 hgr hat hlt1; have hc1 := Cells.grown (hc.alloc _).drew hgr HNE.out; have c1 : w1.cell? ⟨g, 0, none⟩ = some (.slice ao bb.length cap) := (by rw [hc1.cell]; rfl); have f1 := hc1.frozen 0)
      all_goals
        have HG := Lib.hid hgr
        have HA := Lib.hid hat
        clear hgr hat e1 e2 e3
        go_wp2
        go_roundw
        case rel =>
          refine ⟨i + 1, by omega, by go_num, ?_⟩
          rw [HB.out, ← List.append_assoc, HBB.out]
          have hnn := HN.out
          exact wr_push hb (by simp; omega) (((Below.refl g wr).alloc (by omega) _).drew) hc1 hown HG.out hown1 (by first | exact byte_of' n i (by omega) | exact byte_of n i)
        case measure => simp [intOf]; omega
    · have hx : i = 1 := by omega
      have HX := Lib.hid hx
      clear hx
      go_wp2
      go_end0
      exact ⟨rfl, by rw [← HX.out]; exact hto⟩
theorem wrU8 (g n : Nat) (bs : List UInt8) (w : World) (h : Wr w g bs) (hl : bs.length ≤ 1099511627776) (hn : n < 256) :
    Calls Tryd.prog 59 #[.pointer (some ⟨g, 0, none⟩), .int .u8 n] w fun E w' => E = .returned (.tuple #[]) ∧ WrTo w g (bs ++ le 1 n) w' := by
  have HN := Lib.hid hn
  clear hn
  go_enter Tryd.func59, Tryd.ntmps59
  go_wp2_with fail
  refine (put8 g n bs _ h hl HN.out).mono ?_
  rintro E w' ⟨rfl, hw⟩
  go_wp2
  go_end0
  exact ⟨rfl, hw⟩

set_option maxHeartbeats 1000000 in
set_option maxRecDepth 20000 in
theorem put16 (g n : Nat) (bs : List UInt8) (w : World) (h : Wr w g bs) (hl : bs.length ≤ 1099511627776) (hn : n < 65536) :
    Calls Tryd.prog 60 #[.pointer (some ⟨g, 0, none⟩), .int .u16 n] w fun E w' => E = .returned (.tuple #[]) ∧ WrTo w g (bs ++ le 2 n) w' := by
  have HN := Lib.hid hn
  clear hn
  go_enter Tryd.func60, Tryd.ntmps60
  go_wp2_with fail
  refine (width16 _).mono ?_
  rintro E w' ⟨rfl, rfl⟩
  go_wp2
  go_loopw [4, 8] (fun _ j wr => PutRel w g bs 2 n j wr) (fun _ j _ => 2 - (intOf j).toNat)
  case atStart => exact ⟨0, by omega, rfl, by simpa [le] using h, Below.refl _ _⟩
  case round =>
    obtain ⟨i, hi, rfl, hto⟩ := hrel
    by_cases hlt : i < 2
    · have hll : (bs ++ le i n).length = bs.length + i := by rw [List.length_append, le_length]
      have hln : (bs ++ le i n).length + 1 ≤ 1099511627800 := by omega
      have HB := Lib.hid (le_snoc i n)
      clear hll
      generalize hbb : bs ++ le i n = bb at *
      have HBB := Lib.hid hbb
      clear hbb
      obtain ⟨⟨ao, cap, hc, hown⟩, hb⟩ := hto
      have c0 : wr.cell? ⟨g, 0, none⟩ = some (.slice ao bb.length cap) := by rw [hc.cell]; rfl
      have f0 := hc.frozen 0
      obtain ⟨i0, hi0, hz0, hz1, hz2⟩ := info_parts info_u8
      have HI0 := Lib.hid hi0
      have HZ0 := Lib.hid hz0
      have HZ1 := Lib.hid hz1
      have HZ2 := Lib.hid hz2
      clear hi0 hz0 hz1 hz2
      have hb1 : bb.length + 1 ≤ maxLen := by simp only [maxLen]; omega
      have hb2 : (bb.length + 1) * 1 ≤ 140737488355328 := by omega
      have hgl := hc.lt
      have hne : some g ≠ (Value.slice ao bb.length cap).ownBlock := fun e => by have := (hown.lt g e.symm).1; omega
      have HNE := Lib.hid hne
      clear hne
      have e1 : IntKind.i64.wrap (8 * (i : Int)) = 8 * (i : Int) := IntWalk.i64_in _ (by omega)
      have e2 : (8 * (i : Int)).toNat = 8 * i := by omega
      have e3 : (0 : Int) ≤ 8 * (i : Int) := by omega
      go_wp2
      go_region_law (refine step_append_lies _ rfl (.tmp 15) (.tmp 22) 58 rfl (g + 1) 5 i0 (.int .u8 0) 1 1 Tryd.underlying58 HI0.out HZ0.out HZ1.out HZ2.out rfl (by decide) _ _ _ (by simp [Act.eval]) (hown.alloc _) ⟨wr.heap.size, 0, none⟩ 1 1 [_] (by simp [Act.eval]) rfl (cell_one_new _ _ _) (by simp [Value.oneCell']) (by decide) hb1 hb2 (by simp; omega) _ rfl ?_; intro g' cap' w1 hown1 hgr hat hlt1; have hc1 := Cells.grown (hc.alloc _).drew hgr HNE.out; have c1 : w1.cell? ⟨g, 0, none⟩ = some (.slice ao bb.length cap) := (by rw [hc1.cell]; rfl); have f1 := hc1.frozen 0)
      all_goals
        have HG := Lib.hid hgr
        have HA := Lib.hid hat
        clear hgr hat e1 e2 e3
        go_wp2
        go_roundw
        case rel =>
          refine ⟨i + 1, by omega, by go_num, ?_⟩
          rw [HB.out, ← List.append_assoc, HBB.out]
          have hnn := HN.out
          exact wr_push hb (by simp; omega) (((Below.refl g wr).alloc (by omega) _).drew) hc1 hown HG.out hown1 (by first | exact byte_of' n i (by omega) | exact byte_of n i)
        case measure => simp [intOf]; omega
    · have hx : i = 2 := by omega
      have HX := Lib.hid hx
      clear hx
      go_wp2
      go_end0
      exact ⟨rfl, by rw [← HX.out]; exact hto⟩
theorem wrU16 (g n : Nat) (bs : List UInt8) (w : World) (h : Wr w g bs) (hl : bs.length ≤ 1099511627776) (hn : n < 65536) :
    Calls Tryd.prog 35 #[.pointer (some ⟨g, 0, none⟩), .int .u16 n] w fun E w' => E = .returned (.tuple #[]) ∧ WrTo w g (bs ++ le 2 n) w' := by
  have HN := Lib.hid hn
  clear hn
  go_enter Tryd.func35, Tryd.ntmps35
  go_wp2_with fail
  refine (put16 g n bs _ h hl HN.out).mono ?_
  rintro E w' ⟨rfl, hw⟩
  go_wp2
  go_end0
  exact ⟨rfl, hw⟩

set_option maxHeartbeats 1000000 in
set_option maxRecDepth 20000 in
theorem put32 (g n : Nat) (bs : List UInt8) (w : World) (h : Wr w g bs) (hl : bs.length ≤ 1099511627776) (hn : n < 4294967296) :
    Calls Tryd.prog 69 #[.pointer (some ⟨g, 0, none⟩), .int .u32 n] w fun E w' => E = .returned (.tuple #[]) ∧ WrTo w g (bs ++ le 4 n) w' := by
  have HN := Lib.hid hn
  clear hn
  go_enter Tryd.func69, Tryd.ntmps69
  go_wp2_with fail
  refine (width32 _).mono ?_
  rintro E w' ⟨rfl, rfl⟩
  go_wp2
  go_loopw [4, 8] (fun _ j wr => PutRel w g bs 4 n j wr) (fun _ j _ => 4 - (intOf j).toNat)
  case atStart => exact ⟨0, by omega, rfl, by simpa [le] using h, Below.refl _ _⟩
  case round =>
    obtain ⟨i, hi, rfl, hto⟩ := hrel
    by_cases hlt : i < 4
    · have hll : (bs ++ le i n).length = bs.length + i := by rw [List.length_append, le_length]
      have hln : (bs ++ le i n).length + 1 ≤ 1099511627800 := by omega
      have HB := Lib.hid (le_snoc i n)
      clear hll
      generalize hbb : bs ++ le i n = bb at *
      have HBB := Lib.hid hbb
      clear hbb
      obtain ⟨⟨ao, cap, hc, hown⟩, hb⟩ := hto
      have c0 : wr.cell? ⟨g, 0, none⟩ = some (.slice ao bb.length cap) := by rw [hc.cell]; rfl
      have f0 := hc.frozen 0
      obtain ⟨i0, hi0, hz0, hz1, hz2⟩ := info_parts info_u8
      have HI0 := Lib.hid hi0
      have HZ0 := Lib.hid hz0
      have HZ1 := Lib.hid hz1
      have HZ2 := Lib.hid hz2
      clear hi0 hz0 hz1 hz2
      have hb1 : bb.length + 1 ≤ maxLen := by simp only [maxLen]; omega
      have hb2 : (bb.length + 1) * 1 ≤ 140737488355328 := by omega
      have hgl := hc.lt
      have hne : some g ≠ (Value.slice ao bb.length cap).ownBlock := fun e => by have := (hown.lt g e.symm).1; omega
      have HNE := Lib.hid hne
      clear hne
      have e1 : IntKind.i64.wrap (8 * (i : Int)) = 8 * (i : Int) := IntWalk.i64_in _ (by omega)
      have e2 : (8 * (i : Int)).toNat = 8 * i := by omega
      have e3 : (0 : Int) ≤ 8 * (i : Int) := by omega
      go_wp2
      go_region_law (refine step_append_lies _ rfl (.tmp 15) (.tmp 22) 58 rfl (g + 1) 5 i0 (.int .u8 0) 1 1 Tryd.underlying58 HI0.out HZ0.out HZ1.out HZ2.out rfl (by decide) _ _ _ (by simp [Act.eval]) (hown.alloc _) ⟨wr.heap.size, 0, none⟩ 1 1 [_] (by simp [Act.eval]) rfl (cell_one_new _ _ _) (by simp [Value.oneCell']) (by decide) hb1 hb2 (by simp; omega) _ rfl ?_; intro g' cap' w1 hown1 hgr hat hlt1; have hc1 := Cells.grown (hc.alloc _).drew hgr HNE.out; have c1 : w1.cell? ⟨g, 0, none⟩ = some (.slice ao bb.length cap) := (by rw [hc1.cell]; rfl); have f1 := hc1.frozen 0)
      all_goals
        have HG := Lib.hid hgr
        have HA := Lib.hid hat
        clear hgr hat e1 e2 e3
        go_wp2
        go_roundw
        case rel =>
          refine ⟨i + 1, by omega, by go_num, ?_⟩
          rw [HB.out, ← List.append_assoc, HBB.out]
          have hnn := HN.out
          exact wr_push hb (by simp; omega) (((Below.refl g wr).alloc (by omega) _).drew) hc1 hown HG.out hown1 (by first | exact byte_of' n i (by omega) | exact byte_of n i)
        case measure => simp [intOf]; omega
    · have hx : i = 4 := by omega
      have HX := Lib.hid hx
      clear hx
      go_wp2
      go_end0
      exact ⟨rfl, by rw [← HX.out]; exact hto⟩
set_option maxHeartbeats 1000000 in
set_option maxRecDepth 20000 in
theorem put64 (g n : Nat) (bs : List UInt8) (w : World) (h : Wr w g bs) (hl : bs.length ≤ 1099511627776) (hn : n < 18446744073709551616) :
    Calls Tryd.prog 57 #[.pointer (some ⟨g, 0, none⟩), .int .u64 n] w fun E w' => E = .returned (.tuple #[]) ∧ WrTo w g (bs ++ le 8 n) w' := by
  have HN := Lib.hid hn
  clear hn
  go_enter Tryd.func57, Tryd.ntmps57
  go_wp2_with fail
  refine (width64 _).mono ?_
  rintro E w' ⟨rfl, rfl⟩
  go_wp2
  go_loopw [4, 8] (fun _ j wr => PutRel w g bs 8 n j wr) (fun _ j _ => 8 - (intOf j).toNat)
  case atStart => exact ⟨0, by omega, rfl, by simpa [le] using h, Below.refl _ _⟩
  case round =>
    obtain ⟨i, hi, rfl, hto⟩ := hrel
    by_cases hlt : i < 8
    · have hll : (bs ++ le i n).length = bs.length + i := by rw [List.length_append, le_length]
      have hln : (bs ++ le i n).length + 1 ≤ 1099511627800 := by omega
      have HB := Lib.hid (le_snoc i n)
      clear hll
      generalize hbb : bs ++ le i n = bb at *
      have HBB := Lib.hid hbb
      clear hbb
      obtain ⟨⟨ao, cap, hc, hown⟩, hb⟩ := hto
      have c0 : wr.cell? ⟨g, 0, none⟩ = some (.slice ao bb.length cap) := by rw [hc.cell]; rfl
      have f0 := hc.frozen 0
      obtain ⟨i0, hi0, hz0, hz1, hz2⟩ := info_parts info_u8
      have HI0 := Lib.hid hi0
      have HZ0 := Lib.hid hz0
      have HZ1 := Lib.hid hz1
      have HZ2 := Lib.hid hz2
      clear hi0 hz0 hz1 hz2
      have hb1 : bb.length + 1 ≤ maxLen := by simp only [maxLen]; omega
      have hb2 : (bb.length + 1) * 1 ≤ 140737488355328 := by omega
      have hgl := hc.lt
      have hne : some g ≠ (Value.slice ao bb.length cap).ownBlock := fun e => by have := (hown.lt g e.symm).1; omega
      have HNE := Lib.hid hne
      clear hne
      have e1 : IntKind.i64.wrap (8 * (i : Int)) = 8 * (i : Int) := IntWalk.i64_in _ (by omega)
      have e2 : (8 * (i : Int)).toNat = 8 * i := by omega
      have e3 : (0 : Int) ≤ 8 * (i : Int) := by omega
      go_wp2
      go_region_law (refine step_append_lies _ rfl (.tmp 15) (.tmp 21) 58 rfl (g + 1) 5 i0 (.int .u8 0) 1 1 Tryd.underlying58 HI0.out HZ0.out HZ1.out HZ2.out rfl (by decide) _ _ _ (by simp [Act.eval]) (hown.alloc _) ⟨wr.heap.size, 0, none⟩ 1 1 [_] (by simp [Act.eval]) rfl (cell_one_new _ _ _) (by simp [Value.oneCell']) (by decide) hb1 hb2 (by simp; omega) _ rfl ?_; intro g' cap' w1 hown1 hgr hat hlt1; have hc1 := Cells.grown (hc.alloc _).drew hgr HNE.out; have c1 : w1.cell? ⟨g, 0, none⟩ = some (.slice ao bb.length cap) := (by rw [hc1.cell]; rfl); have f1 := hc1.frozen 0)
      all_goals
        have HG := Lib.hid hgr
        have HA := Lib.hid hat
        clear hgr hat e1 e2 e3
        go_wp2
        go_roundw
        case rel =>
          refine ⟨i + 1, by omega, by go_num, ?_⟩
          rw [HB.out, ← List.append_assoc, HBB.out]
          have hnn := HN.out
          exact wr_push hb (by simp; omega) (((Below.refl g wr).alloc (by omega) _).drew) hc1 hown HG.out hown1 (by first | exact byte_of' n i (by omega) | exact byte_of n i)
        case measure => simp [intOf]; omega
    · have hx : i = 8 := by omega
      have HX := Lib.hid hx
      clear hx
      go_wp2
      go_end0
      exact ⟨rfl, by rw [← HX.out]; exact hto⟩
theorem wrU64 (g n : Nat) (bs : List UInt8) (w : World) (h : Wr w g bs) (hl : bs.length ≤ 1099511627776) (hn : n < 18446744073709551616) :
    Calls Tryd.prog 31 #[.pointer (some ⟨g, 0, none⟩), .int .u64 n] w fun E w' => E = .returned (.tuple #[]) ∧ WrTo w g (bs ++ le 8 n) w' := by
  have HN := Lib.hid hn
  clear hn
  go_enter Tryd.func31, Tryd.ntmps31
  go_wp2_with fail
  refine (put64 g n bs _ h hl HN.out).mono ?_
  rintro E w' ⟨rfl, hw⟩
  go_wp2
  go_end0
  exact ⟨rfl, hw⟩
end Go.Proofs.YtbmkmmkebophpaaDoor
