/- Texts of elder layers, one behind the other. -/
import Derived.Test.YtgmbdadkahcpcaaDoorAd
import Derived.Deep.DeepCutAuto
import Derived.Deep.RegionHeld3
import Derived.Deep.OwnRows
import Derived.Laws.CopyRow
import Derived.Laws.CopyOwn
import Derived.Shelf.Spec.SlicesInsert
import Derived.Deep.RegionLaw
import Derived.Laws.StructEq
import Derived.ChangeKeysEq
import Derived.Deep.Slices
import Derived.Deep.Strs
import Derived.Lib.SmallJoins
import Derived.OpenShut
import Derived.Laws.AppendOwnNone
import Derived.StillTailTactics
/- The document's Check, and what its Put leans on: contracts; words for drawn regions whose calls make memory. -/
namespace Go.Proofs.YtgmbdadkahcpcaaDoor
open Go.RowKit
set_option linter.unusedVariables false

/-! What is below block B stays as it was in the world wd. -/
def On (B : Nat) (wd w' : World) : Prop := Below B wd w'
section
variable {B : Nat} {w wd w1 w2 w' : World} {g : Nat} {t : TypeId} {cs : Array Value}
theorem On.refl (B : Nat) (w : World) : On B w w := Below.refl _ _
theorem On.drew (B : Nat) (w : World) : On B w w.drew := (Below.refl _ w).drew
theorem on_step (h : On wd.heap.size wd w1) (hb : w1.grownBy w2 none) : On wd.heap.size wd w2 := Below.trans h ((below_of_grown hb).mono h.size)
theorem on_alloc {o : Obj} (h : On wd.heap.size wd w1) : On wd.heap.size wd (w1.alloc o) := on_step h (grown_alloc _ _)
theorem on_drewB (h : On B w w') : On B w w'.drew := Below.drew h
theorem on_size (h : On B w w') : w.heap.size ≤ w'.heap.size := Below.size h
theorem on_cell (h : Cells wd g t cs) (hg : g < B) (i : Nat) {v : Value} (hv : cs[i]? = some v) : ∀ w', On B wd w' → w'.cell? ⟨g, i, none⟩ = some v := fun _ o => by rw [(h.below o hg).cell, hv]
theorem on_grown (o : On wd.heap.size wd w') : wd.grownBy w' none := grown_of_below o
theorem keep_row (h : w1.grownBy w2 none) : ∀ g, g < w1.heap.size → rowOf w2 g = rowOf w1 g := fun g hg => by
  unfold rowOf; rw [h.block g hg (by simp)]
theorem keep_lt (h : w1.grownBy w2 none) : ∀ n, n < w1.heap.size → n < w2.heap.size := fun n hn => Nat.lt_of_lt_of_le hn h.size
theorem drew_size (w : World) : w.drew.heap.size = w.heap.size := rfl
theorem alloc_size (w : World) (o : Obj) : (w.alloc o).heap.size = w.heap.size + 1 := by simp
end
/-! A row of bytes turned into a string. -/
def byteV : Value → Nat
  | .int _ z => z.toNat
  | _ => 0
def strOf (cs : Array Value) : ByteArray := str (cs.toList.map fun v => UInt8.ofNat (byteV v))
def allU8 : List Value → Bool
  | [] => true
  | .int .u8 z :: r => decide (0 ≤ z ∧ z < 256) && allU8 r
  | _ => false
theorem allU8_map : ∀ (l : List Value), allU8 l = true → l = bvs (l.map fun v => UInt8.ofNat (byteV v))
  | [], _ => rfl
  | .int .u8 z :: r, h => by
    simp only [allU8, Bool.and_eq_true, decide_eq_true_eq] at h
    have e := allU8_map r h.2
    show Value.int .u8 z :: r = bv (UInt8.ofNat z.toNat) :: bvs (r.map fun v => UInt8.ofNat (byteV v))
    rw [← e]
    have e2 : bv (UInt8.ofNat z.toNat) = .int .u8 z := by
      unfold bv
      rw [show ((UInt8.ofNat z.toNat).toNat : Int) = z by simp; omega]
    rw [e2]
theorem strOf2 (a b : Nat) : strOf #[.int .u8 (a : Int), .int .u8 (b : Int)] = str [UInt8.ofNat a, UInt8.ofNat b] := by simp [strOf, byteV]
theorem strOf3 (a b c : Nat) : strOf #[.int .u8 (a : Int), .int .u8 (b : Int), .int .u8 (c : Int)] = str [UInt8.ofNat a, UInt8.ofNat b, UInt8.ofNat c] := by simp [strOf, byteV]
theorem allU8_cons (a : Nat) (r : List Value) : allU8 (.int .u8 (a : Int) :: r) = (decide (a < 256) && allU8 r) := by
  have e : decide (0 ≤ (a : Int) ∧ (a : Int) < 256) = decide (a < 256) := decide_eq_decide.2 (by omega)
  simp only [allU8, e]
theorem allU8_nil : allU8 [] = true := rfl

set_option maxHeartbeats 1000000 in
set_option maxRecDepth 20000 in
theorem refCheck (s : St) (ao : Option Addr) (cap : Nat) (w : World) (h : Shs w ao s.ss) :
    Calls Tryd.prog 47 #[sv s ao cap] w fun E w' => E = .returned (.int .i64 (chk s)) ∧ w.grownBy w' none := by
  by_cases h8 : 8 < s.ss.length
  · rw [chk_few h8]
    go_enter Tryd.func47, Tryd.ntmps47
    go_wp2
    go_ret
    exact ⟨rfl, grown_alloc _ _⟩
  · have hB := bk_made w s ao cap
    have HS := Lib.hid (Shs_grown h (grown_alloc w (.cells (stc s ao cap) 30)) (by simp))
    have HB := Lib.hid hB
    have C0 : Hid (∀ W, Calls Tryd.prog 70 #[pv s.p] W fun E w' => E = .returned (.bool s.p.good) ∧ W.grownBy w' none) := refPlayer s.p
    have C1 : Hid (∀ W, Calls Tryd.prog 70 #[pv s.q] W fun E w' => E = .returned (.bool s.q.good) ∧ W.grownBy w' none) := refPlayer s.q
    have HR : Hid (chk s = if (s.p.good && s.q.good && s.ss.all Sh.good) = true then 0 else 4) := by
      show _ = _
      rw [chk_of (by omega)]; simp
    rw [HR.out]
    have hd8 : decide ((8 : Int) < (s.ss.length : Int)) = false := decide_eq_false (by omega)
    clear hB h HR
    have HA1 : Hid (∀ k (h : k < s.ss.length), (s.ss[k]'h).good = false → s.ss.all Sh.good = false) := fun k h e => all_bad h e
    have HA2 : Hid ((s.ss.take s.ss.length).all Sh.good = true → s.ss.all Sh.good = true) := fun h => by rwa [List.take_length] at h
    generalize s.p.good = b0 at *
    generalize s.q.good = b1 at *
    generalize s.ss.all Sh.good = ba at *
    unfold pv at C0 C1
    go_enter Tryd.func47, Tryd.ntmps47
    go_wp2_with fail
    refine (C0.out _).mono ?_
    rintro E w1 ⟨rfl, hb1⟩
    cases b0
    · go_wp2
      go_ret
      exact ⟨rfl, (grown_alloc _ _).trans hb1⟩
    · obtain ⟨c0, c1, ⟨c2, c3, c4, c5, c6, c7, c8⟩, ⟨c9, c10, c11, c12, c13, c14, c15⟩, c16, c17, c18⟩ := bk_cells (bk_grown HB.out hb1 (by simp))
      have HB1 := Lib.hid hb1
      clear hb1
      go_wp2_with fail
      refine (C1.out _).mono ?_
      rintro E w2 ⟨rfl, hb2⟩
      have HB2 := Lib.hid (HB1.out.trans hb2)
      clear hb2 HB1 c0 c1 c2 c3 c4 c5 c6 c7 c8 c9 c10 c11 c12 c13 c14 c15 c16 c17 c18
      cases b1
      · go_wp2
        go_ret
        exact ⟨rfl, (grown_alloc _ _).trans HB2.out⟩
      · go_upto_region 3 with fail
        go_cut [1, 3] (fun s1 s3 wx => s1 = .pointer (some ⟨w.heap.size, 0, none⟩) ∧ s3 = .int .i64 (0 : Nat) ∧ Hid ((w.alloc (.cells (stc s ao cap) 30)).grownBy wx none))
        case first =>
          go_wp2_with fail
          all_goals go_meet
          all_goals exact ⟨rfl, rfl, HB2⟩
        case rest =>
        obtain ⟨rfl, rfl, HB2⟩ := hcut
        clear C0 C1
        go_wp2
        go_loopw [3] (fun v wr => ∃ k : Nat, k ≤ s.ss.length ∧ v = .int .i64 k ∧ Hid ((s.ss.take k).all Sh.good = true) ∧ Hid ((w.alloc (.cells (stc s ao cap) 30)).grownBy wr none)) (fun v _ => s.ss.length - (intOf v).toNat)
        case atStart => exact ⟨0, by omega, by first | rfl | assumption, by simp [Hid], HB2⟩
        case round =>
          obtain ⟨k, hk, rfl, hg, HW⟩ := hrel
          have c16 := (bk_cells (bk_grown HB.out HW.out (by simp))).2.2.2.2.1
          by_cases hlt : k < s.ss.length
          · obtain ⟨hfx, b, o, rfl, hc⟩ := Shs_grown HS.out HW.out (by simp) k hlt
            clear hfx
            have d0 : wr.cell? ⟨b, o + k * 6, none⟩ = _ := hc 0 _ rfl
            have d1 := hc 1 _ rfl
            have d2 := hc 2 _ rfl
            have d3 := hc 3 _ rfl
            have d4 := hc 4 _ rfl
            have d5 := hc 5 _ rfl
            have HN : Hid (((s.ss[k]'hlt).good = false → ba = false) ∧ ((s.ss[k]'hlt).good = true → (s.ss.take (k + 1)).all Sh.good = true)) := ⟨fun e => HA1.out k hlt e, fun e => all_next hlt hg.out e⟩
            clear hc hg
            generalize hs : (s.ss[k]'hlt) = x at *
            clear hs
            have C2 : Hid (∀ W, Calls Tryd.prog 71 #[hv x] W fun E w' => E = .returned (.bool x.good) ∧ W.grownBy w' none) := refShot x
            unfold hv at C2
            generalize x.good = b2 at *
            go_wp2_with fail
            refine (C2.out _).mono ?_
            rintro E w3 ⟨rfl, hb3⟩
            cases b2
            · obtain rfl := HN.out.1 rfl
              clear d0 d1 d2 d3 d4 d5 c16 HN
              go_wp2
              go_ret
              exact ⟨rfl, ((grown_alloc _ _).trans HW.out).trans hb3⟩
            · have HX := Lib.hid (HN.out.2 rfl)
              clear d0 d1 d2 d3 d4 d5 c16 HN
              go_wp2
              go_roundw
              case rel => exact ⟨k + 1, by omega, by go_num, HX, HW.out.trans hb3⟩
              case measure => simp [intOf]; omega
          · obtain rfl : k = s.ss.length := by omega
            obtain rfl := HA2.out hg.out
            clear hg hk hlt
            go_wp2
            go_ret
            exact ⟨rfl, (grown_alloc _ _).trans HW.out⟩
end Go.Proofs.YtgmbdadkahcpcaaDoor
/- Numbers as a player, as a shot; how package state reads players and shots: one contract each. -/
namespace Go.Proofs.YtgmbdadkahcpcaaDoor
open Go.RowKit
set_option linter.unusedVariables false

theorem info_i32 : (Tryd.prog.info? 21).map (fun i => (i.zero, i.size, i.bytes)) = some (some (.int .i32 0), 1, 4) := by kernel_rfl
theorem num_lt (k : Nat) (l : List UInt8) : (num k l).val < 256 ^ k := by
  unfold num
  split
  · have := un_lt (l.take k)
    rwa [List.length_take, Nat.min_eq_left (by assumption)] at this
  · exact Nat.two_pow_pos 0 |> fun _ => Nat.pow_pos (by decide)
theorem many_lt : ∀ (m i : Nat) (l : List UInt8), okM okN m i (many (fun i => num (wd i)) m i l).val
  | 0, _, _ => rfl
  | m + 1, i, l => ⟨_, _, rfl, num_lt _ _, many_lt m (i + 1) _⟩
/-- The numbers as they stand in the row of 32 bits. -/
def nvI (i n : Nat) : Int := if i < 4 then wrap32 n else (n : Int)
def nvs : Nat → List Nat → List Int
  | _, [] => []
  | i, a :: r => nvI i a :: nvs (i + 1) r
theorem nvs_snoc : ∀ (l : List Nat) (i a : Nat), nvs i (l ++ [a]) = nvs i l ++ [nvI (i + l.length) a]
  | [], i, a => by simp [nvs]
  | x :: l, i, a => by
    simp only [List.cons_append, nvs, nvs_snoc l (i + 1) a, List.length_cons]
    rw [show i + 1 + l.length = i + (l.length + 1) from by omega]
theorem nvs_len : ∀ (l : List Nat) (i : Nat), (nvs i l).length = l.length
  | [], _ => rfl
  | _ :: l, i => by simp [nvs, nvs_len l]
def rowN (m : Nat) (l : List Nat) : Array Value := i32v (nvs 0 l ++ List.replicate (m - l.length) 0)
theorem rowN_nil (m : Nat) : rowN m [] = madeCells #[.int .i32 0] m := by
  apply Array.ext'
  rw [toList_madeCells_one]
  simp [rowN, nvs, i32v]
theorem rowN_set (m : Nat) (l : List Nat) (a : Nat) (h : l.length < m) : (rowN m l).setIfInBounds l.length (.int .i32 (nvI l.length a)) = rowN m (l ++ [a]) := by
  apply Array.ext'
  have e : m - l.length = (m - (l.length + 1)) + 1 := by omega
  simp only [rowN, i32v, nvs_snoc, Nat.zero_add, List.length_append, List.length_cons, List.length_nil]
  rw [e, List.replicate_succ]
  simp [nvs_len]
theorem many_val_len {α : Type} (P : Nat → List UInt8 → Got α) (m i : Nat) (l : List UInt8) : (many P m i l).val.length = m := many_len P m i l
theorem rowN_at (m : Nat) (l : List Nat) (j : Nat) (hl : l.length = j) (h : j < m) : (rowN m l)[j]? = some (.int .i32 0) := by
  rw [rowN, i32v, ← Array.getElem?_toList]
  simp only [List.getElem?_map]
  rw [List.getElem?_append_right (by rw [nvs_len]; omega), nvs_len, hl, Nat.sub_self]
  rw [List.getElem?_replicate, if_pos (by omega)]
  rfl
theorem grown_setNew {w w1 : World} {r : Option Nat} {p : Addr} {u : Value} (h : w.grownBy w1 r) (hp : w.heap.size ≤ p.block) : w.grownBy (w1.setCell p u) r :=
  ⟨h.os, h.tape, h.output, by have := h.size; simp [World.setCell]; exact this, fun i hi hn => (Below.heap_setCell _ _ _ i (by omega)).trans (h.block i hi hn)⟩
theorem grown_row {w w1 w2 : World} {r : Nat} {ob : Option Nat} (h : w.grownBy w1 (some r)) (k : w1.grownBy w2 ob) (hb : ∀ q, ob = some q → w.heap.size ≤ q) : w.grownBy w2 (some r) :=
  ⟨k.os.trans h.os, k.tape.trans h.tape, k.output.trans h.output, Nat.le_trans h.size k.size, fun i hi hn => (k.block i (Nat.lt_of_lt_of_le hi h.size) (fun e => by have := hb i e.symm; omega)).trans (h.block i hi hn)⟩
theorem many_val {α : Type} (P : Nat → List UInt8 → Got α) (m i : Nat) (l : List UInt8) : (many P (m + 1) i l).val = (many P m i l).val ++ [(P (i + m) (many P m i l).rest).val] := by rw [many_snoc]
theorem many_rest {α : Type} (P : Nat → List UInt8 → Got α) (m i : Nat) (l : List UInt8) : (many P (m + 1) i l).rest = (P (i + m) (many P m i l).rest).rest := by rw [many_snoc]
theorem many_err {α : Type} (P : Nat → List UInt8 → Got α) (m i : Nat) (l : List UInt8) : (many P (m + 1) i l).err = fin (many P m i l).err (P (i + m) (many P m i l).rest).err := by rw [many_snoc]
theorem kept_row {w w' : World} {base : Nat} {e : TypeId} {size n : Nat} {v : Value} {xs : List Value} {r : Nat} (h : w.ownsRow base e size v n xs) (hb : w.grownBy w' (some r)) (hr : r < base) : w'.ownsRow base e size v n xs :=
  h.kept hb (by
    rcases h.2 with ⟨rfl, _⟩ | ⟨g', cap, cur, rfl, hg, _⟩
    · exact .inl rfl
    · exact .inr (by simp [Value.ownBlock]; omega))

theorem info_Player : (Tryd.prog.info? 24).map (fun i => (i.zero, i.size, i.bytes)) = some (some (.agg #[.int .i32 0, .int .i32 0, .int .i32 0, .int .i32 0, .int .u8 0, .int .u8 0, .int .u8 0]), 7, 20) := by kernel_rfl
def Pcs (p : Pl) : List Value := [.int .i32 p.x, .int .i32 p.y, .int .i32 p.vx, .int .i32 p.vy, .int .u8 (p.h : Int), .int .u8 (p.c : Int), .int .u8 (p.f : Int)]
def Pall (l : List Pl) : List Value := l.flatMap Pcs
theorem Pall_snoc (l : List Pl) (p : Pl) : Pall (l ++ [p]) = Pall l ++ Pcs p := by simp [Pall]
theorem P_done {v : List Nat} (h : okM okN 7 0 v) : rowN 7 v = i32v (mkP v).nums ∧ (mkP v).fit := by
  obtain ⟨a0, r0, rfl, h0, a1, r1, rfl, h1, a2, r2, rfl, h2, a3, r3, rfl, h3, a4, r4, rfl, h4, a5, r5, rfl, h5, a6, r6, rfl, h6, rfl⟩ := h
  exact ⟨by simp [rowN, nvs, nvI, mkP, Pl.nums], wrap32_fit _, wrap32_fit _, wrap32_fit _, wrap32_fit _, h4, h5, h6⟩
theorem info_Shot : (Tryd.prog.info? 66).map (fun i => (i.zero, i.size, i.bytes)) = some (some (.agg #[.int .i32 0, .int .i32 0, .int .i32 0, .int .i32 0, .int .u8 0, .int .u8 0]), 6, 20) := by kernel_rfl
def Hcs (p : Sh) : List Value := [.int .i32 p.x, .int .i32 p.y, .int .i32 p.vx, .int .i32 p.vy, .int .u8 (p.o : Int), .int .u8 (p.l : Int)]
def Hall (l : List Sh) : List Value := l.flatMap Hcs
theorem Hall_snoc (l : List Sh) (p : Sh) : Hall (l ++ [p]) = Hall l ++ Hcs p := by simp [Hall]
theorem H_done {v : List Nat} (h : okM okN 6 0 v) : rowN 6 v = i32v (mkH v).nums ∧ (mkH v).fit := by
  obtain ⟨a0, r0, rfl, h0, a1, r1, rfl, h1, a2, r2, rfl, h2, a3, r3, rfl, h3, a4, r4, rfl, h4, a5, r5, rfl, h5, rfl⟩ := h
  exact ⟨by simp [rowN, nvs, nvI, mkH, Sh.nums], wrap32_fit _, wrap32_fit _, wrap32_fit _, wrap32_fit _, h4, h5⟩
end Go.Proofs.YtgmbdadkahcpcaaDoor
/- Take: the state that bytes are: its contract. -/
namespace Go.Proofs.YtgmbdadkahcpcaaDoor
open Go.RowKit
set_option linter.unusedVariables false

/-- A state laid down whole. -/
def storeState (p v : Value) : Sem Unit := Instr.storeAt 30 p v
theorem storeAt_state (p v : Value) : Instr.storeAt 30 p v = storeState p v := rfl
theorem info_StSz : (Tryd.prog.info? 30).map (·.size) = some 19 := by kernel_rfl
theorem run_storeState {w : World} {g : Nat} {t : TypeId} {old cs : Array Value} (h : Cells w g t old) (ho : old.size = 19) (hc : cs.size = 19) (h1 : ∀ v ∈ cs.toList, v.oneCell' = true) :
    (storeState (.pointer (some ⟨g, 0, none⟩)) (.agg cs)).run Tryd.prog w = .ok () (w.setRow g cs) := by
  have hst := run_storeCells_at Tryd.prog g 0 t cs.toList 0 old w h (by simp [ho, hc]) h1
  have e0 : (old.toList.take (0 + 0) ++ cs.toList ++ old.toList.drop (0 + 0 + cs.toList.length)).toArray = cs := by
    rw [show cs.toList.length = 19 from by simpa using hc, List.drop_of_length_le (by simp [ho])]; simp
  rw [e0] at hst
  cases hq : Tryd.prog.info? 30 with
  | none => have := info_StSz; rw [hq] at this; simp at this
  | some i =>
    have hi : i.size = 19 := by have := info_StSz; rw [hq] at this; simpa using this
    simp [storeState, Instr.storeAt, Instr.sureAddr, storeVar, sizeOf, typeInfo, hq, hi, Value.cells, hc, hst]
attribute [local go_sem ↓] loadAt_state storeAt_state
attribute [local go_sem] run_loadState rowOf_new rowOf_old rowOf_drew rowOf_drewN
abbrev zst : Array Value := stc .zero none 0
theorem hall_at : ∀ (l : List Sh) (k : Nat) (hk : k < l.length) (i : Nat) (v : Value), (Hcs (l[k]'hk))[i]? = some v → (Hall l)[k * 6 + i]? = some v
  | a :: l, 0, _, i, v, hv => by
    have hi : i < 6 := by
      rcases Nat.lt_or_ge i 6 with h1 | h1
      · exact h1
      · rw [List.getElem?_eq_none (by simpa [Hcs] using h1)] at hv; cases hv
    simp only [Hall, List.flatMap_cons]
    rw [List.getElem?_append_left (by simp [Hcs]; omega)]
    simpa using hv
  | a :: l, k + 1, hk, i, v, hv => by
    have ih := hall_at l k (by simpa using hk) i v hv
    simp only [Hall, List.flatMap_cons]
    rw [List.getElem?_append_right (by simp [Hcs]; omega)]
    simp only [Hcs, List.length_cons, List.length_nil]
    rw [show (k + 1) * 6 + i - (0 + 1 + 1 + 1 + 1 + 1 + 1) = k * 6 + i from by omega]
    exact ih
/-- Shots that a call owns can be read. -/
theorem shs_own {w : World} {B n : Nat} {ao : Option Addr} {cap : Nat} {l : List Sh} (h : w.ownsRow B 66 6 (.slice ao n cap) n (Hall l)) (hl : l.length = n) (hf : ∀ x ∈ l, x.fit) : Shs w ao l := fun k hk => by
  refine ⟨hf _ (List.getElem_mem hk), ?_⟩
  rcases h.2 with ⟨_, h0⟩ | ⟨g, cap', cur, he, _⟩
  · omega
  · injection he with e1 e2 e3
    subst e1
    refine ⟨g, 0, rfl, fun i v hv => ?_⟩
    have hi : i < 6 := by
      rcases Nat.lt_or_ge i 6 with h1 | h1
      · exact h1
      · rw [List.getElem?_eq_none (by simpa using h1)] at hv; cases hv
    have hx : (Hall l)[k * 6 + i]? = some v := hall_at l k hk i v hv
    have := World.ownsRow.cells h (g := g) rfl (k * 6 + i) v hx
    have e : (⟨g, 0, none⟩ : Addr).add (k * 6 + i) = ⟨g, 0 + k * 6 + i, none⟩ := by unfold Addr.add; split <;> simp_all
    rwa [e] at this
section
variable {w : World} {g : Nat} {s : St} {ao : Option Addr} {cap : Nat}
theorem bk_set0 (h : Bk w g s ao cap) (n : Nat) : Bk (w.setCell ⟨g, 0, none⟩ (.int .u64 (n : Int))) g { s with fr := n } ao cap := by
  have := Cells.set h 0 (.int .u64 (n : Int)); simpa [Bk] using this
theorem bk_set1 (h : Bk w g s ao cap) (n : Nat) : Bk (w.setCell ⟨g, 1, none⟩ (.int .u64 (n : Int))) g { s with sd := n } ao cap := by
  have := Cells.set h 1 (.int .u64 (n : Int)); simpa [Bk] using this
theorem bk_set16 (h : Bk w g s ao cap) (l : List Sh) (n : Nat) (hl : l.length = n) (a : Option Addr) (c : Nat) : Bk (w.setCell ⟨g, 16, none⟩ (.slice a n c)) g { s with ss := l } a c := by
  subst hl
  have := Cells.set h 16 (.slice a l.length c); simpa [Bk] using this
theorem bk_set17 (h : Bk w g s ao cap) (n : Nat) : Bk (w.setCell ⟨g, 17, none⟩ (.int .u16 (n : Int))) g { s with s0 := n } ao cap := by
  have := Cells.set h 17 (.int .u16 (n : Int)); simpa [Bk] using this
theorem bk_set18 (h : Bk w g s ao cap) (n : Nat) : Bk (w.setCell ⟨g, 18, none⟩ (.int .u16 (n : Int))) g { s with s1 := n } ao cap := by
  have := Cells.set h 18 (.int .u16 (n : Int)); simpa [Bk] using this
end
theorem info_PlSz : (Tryd.prog.info? 24).map (·.size) = some 7 := by kernel_rfl
/-- Two players laid into a state's block. -/
theorem copy_two {w : World} {g : Nat} {s : St} {ao : Option Addr} {cap : Nat} (h : Bk w g s ao cap) (p q : Pl) (ap : Option Addr) (c n : Nat) (B : Nat) (ty : TypeId) (hown : w.ownsRow B 24 7 (.slice ap 2 c) 2 (Pall [p, q])) :
    ∃ w', (Builtin.copy_ #[75, 75] ty #[.slice (some ⟨g, 2, none⟩) 2 n, .slice ap 2 c]).run Tryd.prog w = .ok (.int .i64 2) w' ∧ Bk w' g { s with p := p, q := q } ao cap ∧ w.grownBy w' (some g) := by
  obtain ⟨b, c', he, _, _⟩ := hown.form (by decide)
  injection he with e1 e2 e3
  subst e1
  have hsrc := World.ownsRow.cells hown (g := b) rfl
  have hlen : (Pall [p, q]).length = 14 := rfl
  have h1 : ∀ v ∈ Pall [p, q], v.oneCell' = true := by simp [Pall, Pcs, Value.oneCell']
  have hl := run_loadCells_list (P := Tryd.prog) w ⟨b, 0, none⟩ (Pall [p, q]) hsrc
  have hst := run_storeCells_at Tryd.prog g 2 _ (Pall [p, q]) 0 (stc s ao cap) w h (by rw [hlen]; show 16 ≤ 19; decide) h1
  rw [hlen] at hl hst
  have e0 : ((stc s ao cap).toList.take (2 + 0) ++ Pall [p, q] ++ (stc s ao cap).toList.drop (2 + 0 + 14)).toArray = stc { s with p := p, q := q } ao cap := rfl
  rw [e0] at hst
  cases hq : Tryd.prog.info? 24 with
  | none => have := info_PlSz; rw [hq] at this; simp at this
  | some i =>
    have hi : i.size = 7 := by have := info_PlSz; rw [hq] at this; simpa using this
    refine ⟨w.setRow g (stc { s with p := p, q := q } ao cap), ?_, setRow_heap w g _ _ _ _ h, ?_⟩
    · simp [Builtin.copy_, run_underlying Tryd.underlying75, Builtin.lenOf, Builtin.firstCells, sizeOf, typeInfo, hq, hi, hl, hst, goInt]
    · exact ⟨rfl, rfl, rfl, by simp [World.setRow], fun k hk hn => setRow_other _ _ _ _ (fun e => hn (by rw [e]))⟩
theorem shut_two {W : World} {g : Nat} {cs : Array Value} (tmps : Array Value) (e : Int) (fn : Func) (hr : fn.results = #[.cell 2 30, .tmp 3]) (h : Cells W g 30 cs) (hs : cs.size = 19) (h2 : tmps.getD 2 undef = .pointer (some ⟨g, 0, none⟩)) (h3 : tmps.getD 3 undef = .int .i64 e) :
    (results fn tmps).run Tryd.prog W = .ok (.tuple #[.agg cs, .int .i64 e]) W := by
  have hl := load_state W g (by rw [rowOf_cells h, hs])
  rw [rowOf_cells h] at hl
  have h2' : tmps[2]?.getD undef = .pointer (some ⟨g, 0, none⟩) := by simpa using h2
  have h3' : tmps[3]?.getD undef = .int .i64 e := by simpa using h3
  simp [results, hr, h2', h3', asAddr, hl]
theorem tst_eq (l : List UInt8) (A B : Got Nat) (P : Got (List (List Nat))) (V : Got Nat) (H : Got (List (List Nat))) (C D : Got Nat) (hA : num 8 l = A) (hB : num 8 A.rest = B) (hP : many (fun _ => pR) 2 0 B.rest = P) (hV : vd 0 P.rest = V)
    (hH : many (fun _ => hR) V.val 0 V.rest = H) (hC : num 2 H.rest = C) (hD : num 2 C.rest = D) :
    tst l = if 8 < V.val then (4, .zero) else if fin (fin (fin (fin (fin (fin (fin 0 A.err) B.err) P.err) V.err) H.err) C.err) D.err ≠ 0 then (fin (fin (fin (fin (fin (fin (fin 0 A.err) B.err) P.err) V.err) H.err) C.err) D.err, .zero)
      else if D.rest ≠ [] ∨ St.good ⟨A.val, B.val, mkP (P.val.getD 0 []), mkP (P.val.getD 1 []), H.val.map mkH, C.val, D.val⟩ = false then (4, .zero)
      else (0, ⟨A.val, B.val, mkP (P.val.getD 0 []), mkP (P.val.getD 1 []), H.val.map mkH, C.val, D.val⟩) := by
  have e1 : many (fun _ => num 8) 2 0 l = ⟨fin A.err B.err, [A.val, B.val], B.rest⟩ := by simp [many, hA, hB, fin_zero]
  have e2 : many (fun _ => num 2) 2 0 H.rest = ⟨fin C.err D.err, [C.val, D.val], D.rest⟩ := by simp [many, hC, hD, fin_zero]
  unfold tst rawR
  simp only [seq, e1, hP, hV, hH, e2, mkS, List.getD_cons_zero, List.getD_cons_succ, fin_fin, fin_of]
theorem grown_drw (w : World) : w.grownBy w.drew none := ⟨rfl, rfl, rfl, Nat.le_refl _, fun _ _ _ => rfl⟩
theorem two_maps {v : List (List Nat)} (h : v.length = 2) : v.map mkP = [mkP (v.getD 0 []), mkP (v.getD 1 [])] := by
  match v, h with
  | [a, b], _ => rfl
theorem many_okM {α : Type} {P : Nat → List UInt8 → Got α} {ok : Nat → α → Prop} (h : ∀ i l, ok i (P i l).val) : ∀ (m i : Nat) (l : List UInt8), okM ok m i (many P m i l).val
  | 0, _, _ => rfl
  | m + 1, i, l => ⟨_, _, rfl, h i l, many_okM h m (i + 1) _⟩
theorem kept_shots {w w' : World} {B n r : Nat} {v : Value} {xs : List Value} (h : w.ownsRow B 66 6 v n xs) (hb : w.grownBy w' (some r)) (hr : r < B) : w'.ownsRow B 66 6 v n xs := kept_row h hb hr
theorem grown_setRow (w : World) (g : Nat) (cs : Array Value) : w.grownBy (w.setRow g cs) (some g) := ⟨rfl, rfl, rfl, by simp, fun k hk hn => setRow_other _ _ _ _ (fun e => hn (by rw [e]))⟩
theorem owns_less {w : World} {B B' : Nat} {e : TypeId} {size n : Nat} {v : Value} {xs : List Value} (h : w.ownsRow B e size v n xs) (hB : B' ≤ B) : w.ownsRow B' e size v n xs := by
  refine ⟨h.1, ?_⟩
  rcases h.2 with h | ⟨g, cap, cur, h1, h2, h3⟩
  · exact .inl h
  · exact .inr ⟨g, cap, cur, h1, Nat.le_trans hB h2, h3⟩
theorem two_of {α : Type} {l : List α} (h : l.length = 2) : ∃ a b, l = [a, b] := by
  match l, h with
  | [a, b], _ => exact ⟨a, b, rfl⟩
/-- What Take answers of l. -/
def TkPost (l : List UInt8) (w : World) (E : Ending) (w' : World) : Prop := ∃ ao cap, E = .returned (.tuple #[sv (tst l).2 ao cap, .int .i64 (tst l).1]) ∧ w'.ownsRow w.heap.size 66 6 (.slice ao (tst l).2.ss.length cap) (tst l).2.ss.length (Hall (tst l).2.ss) ∧ w.grownBy w' none
theorem q_bad {l : List UInt8} {w : World} {Q : Ending → World → Prop} (HQ : Hid (∀ E w', TkPost l w E w' → Q E w')) {c : Int} (he : tst l = (c, .zero)) :
    Hid (∀ w', w.grownBy w' none → Q (.returned (.tuple #[.agg (stc .zero none 0), .int .i64 c])) w') := fun w' h =>
  HQ.out _ _ ⟨none, 0, by rw [he], by rw [he]; exact World.ownsRow_nil _ _ _ _, h⟩
theorem q_good {l : List UInt8} {w : World} {Q : Ending → World → Prop} (HQ : Hid (∀ E w', TkPost l w E w' → Q E w')) {s : St} {n : Nat} {sh : List Sh} (he : tst l = (0, s)) (hs : s.ss = sh) (hn : sh.length = n) :
    Hid (∀ w' ao cap, w.grownBy w' none → w'.ownsRow w.heap.size 66 6 (.slice ao n cap) n (Hall sh) → Q (.returned (.tuple #[.agg (stc s ao cap), .int .i64 0])) w') := fun w' ao cap h1 h2 => by
  subst hs hn
  exact HQ.out _ _ ⟨ao, cap, by rw [he], by rw [he]; exact h2, h1⟩
end Go.Proofs.YtgmbdadkahcpcaaDoor
/- Two players, two shots, two pairs of players, two scores: equal or not, as the program's '==' tells. -/
namespace Go.Proofs.YtgmbdadkahcpcaaDoor
open Go.RowKit
set_option linter.unusedVariables false

theorem pl_dec (a b : Pl) : decide (a = b) = ((a.x == b.x) && ((a.y == b.y) && ((a.vx == b.vx) && ((a.vy == b.vy) && (((a.h : Int) == (b.h : Int)) && (((a.c : Int) == (b.c : Int)) && (((a.f : Int) == (b.f : Int))))))))) := by
  rw [Bool.eq_iff_iff]
  simp [pl_eq]
  intros
  omega
set_option maxHeartbeats 1000000 in
theorem pl_in (d : Nat) (a b : Pl) (w : World) : (Op.equalIn (d + 2) 24 (.agg #[.int .i32 a.x, .int .i32 a.y, .int .i32 a.vx, .int .i32 a.vy, .int .u8 (a.h : Int), .int .u8 (a.c : Int), .int .u8 (a.f : Int)]) (.agg #[.int .i32 b.x, .int .i32 b.y, .int .i32 b.vx, .int .i32 b.vy, .int .u8 (b.h : Int), .int .u8 (b.c : Int), .int .u8 (b.f : Int)])).run Tryd.prog w = .ok (decide (a = b)) w := by
  rw [pl_dec]
  cases h0 : a.x == b.x
  · simp [go_sem, h0]
  cases h1 : a.y == b.y
  · simp [go_sem, h0, h1]
  cases h2 : a.vx == b.vx
  · simp [go_sem, h0, h1, h2]
  cases h3 : a.vy == b.vy
  · simp [go_sem, h0, h1, h2, h3]
  cases h4 : (a.h : Int) == (b.h : Int)
  · simp [go_sem, h0, h1, h2, h3, h4]
  cases h5 : (a.c : Int) == (b.c : Int)
  · simp [go_sem, h0, h1, h2, h3, h4, h5]
  cases h6 : (a.f : Int) == (b.f : Int)
  · simp [go_sem, h0, h1, h2, h3, h4, h5, h6]
  · simp [go_sem, h0, h1, h2, h3, h4, h5, h6]

theorem sh_dec (a b : Sh) : decide (a = b) = ((a.x == b.x) && ((a.y == b.y) && ((a.vx == b.vx) && ((a.vy == b.vy) && (((a.o : Int) == (b.o : Int)) && (((a.l : Int) == (b.l : Int)))))))) := by
  rw [Bool.eq_iff_iff]
  simp [sh_eq]
  intros
  omega
set_option maxHeartbeats 1000000 in
theorem sh_in (d : Nat) (a b : Sh) (w : World) : (Op.equalIn (d + 2) 66 (.agg #[.int .i32 a.x, .int .i32 a.y, .int .i32 a.vx, .int .i32 a.vy, .int .u8 (a.o : Int), .int .u8 (a.l : Int)]) (.agg #[.int .i32 b.x, .int .i32 b.y, .int .i32 b.vx, .int .i32 b.vy, .int .u8 (b.o : Int), .int .u8 (b.l : Int)])).run Tryd.prog w = .ok (decide (a = b)) w := by
  rw [sh_dec]
  cases h0 : a.x == b.x
  · simp [go_sem, h0]
  cases h1 : a.y == b.y
  · simp [go_sem, h0, h1]
  cases h2 : a.vx == b.vx
  · simp [go_sem, h0, h1, h2]
  cases h3 : a.vy == b.vy
  · simp [go_sem, h0, h1, h2, h3]
  cases h4 : (a.o : Int) == (b.o : Int)
  · simp [go_sem, h0, h1, h2, h3, h4]
  cases h5 : (a.l : Int) == (b.l : Int)
  · simp [go_sem, h0, h1, h2, h3, h4, h5]
  · simp [go_sem, h0, h1, h2, h3, h4, h5]

theorem cells_pl : Tryd.prog.cellsOf 24 = 7 := by kernel_rfl
theorem arr_eql (a b c e : Pl) (w : World) : (binOp .eql 25 (.agg #[.int .i32 a.x, .int .i32 a.y, .int .i32 a.vx, .int .i32 a.vy, .int .u8 (a.h : Int), .int .u8 (a.c : Int), .int .u8 (a.f : Int), .int .i32 b.x, .int .i32 b.y, .int .i32 b.vx, .int .i32 b.vy, .int .u8 (b.h : Int), .int .u8 (b.c : Int), .int .u8 (b.f : Int)])
      (.agg #[.int .i32 c.x, .int .i32 c.y, .int .i32 c.vx, .int .i32 c.vy, .int .u8 (c.h : Int), .int .u8 (c.c : Int), .int .u8 (c.f : Int), .int .i32 e.x, .int .i32 e.y, .int .i32 e.vx, .int .i32 e.vy, .int .u8 (e.h : Int), .int .u8 (e.c : Int), .int .u8 (e.f : Int)])).run Tryd.prog w = .ok (.bool (decide (a = c) && decide (b = e))) w := by
  rw [run_eql_struct]
  obtain ⟨i, hi, _⟩ := Option.map_eq_some_iff.1 info_PlSz
  rw [run_equalIn_array w 9999 _ _ Tryd.underlying25 hi, cells_pl]
  have p0 : ∀ (x y : Pl) (W : World), (part 24 #[.int .i32 x.x, .int .i32 x.y, .int .i32 x.vx, .int .i32 x.vy, .int .u8 (x.h : Int), .int .u8 (x.c : Int), .int .u8 (x.f : Int), .int .i32 y.x, .int .i32 y.y, .int .i32 y.vx, .int .i32 y.vy, .int .u8 (y.h : Int), .int .u8 (y.c : Int), .int .u8 (y.f : Int)] (0 * 7)).run Tryd.prog W = .ok (.agg #[.int .i32 x.x, .int .i32 x.y, .int .i32 x.vx, .int .i32 x.vy, .int .u8 (x.h : Int), .int .u8 (x.c : Int), .int .u8 (x.f : Int)]) W := fun x y W => by simp [go_sem]
  have p1 : ∀ (x y : Pl) (W : World), (part 24 #[.int .i32 x.x, .int .i32 x.y, .int .i32 x.vx, .int .i32 x.vy, .int .u8 (x.h : Int), .int .u8 (x.c : Int), .int .u8 (x.f : Int), .int .i32 y.x, .int .i32 y.y, .int .i32 y.vx, .int .i32 y.vy, .int .u8 (y.h : Int), .int .u8 (y.c : Int), .int .u8 (y.f : Int)] (1 * 7)).run Tryd.prog W = .ok (.agg #[.int .i32 y.x, .int .i32 y.y, .int .i32 y.vx, .int .i32 y.vy, .int .u8 (y.h : Int), .int .u8 (y.c : Int), .int .u8 (y.f : Int)]) W := fun x y W => by simp [go_sem]
  have q : ∀ (x y : Pl) (W : World), (Op.equalIn 9999 24 (.agg #[.int .i32 x.x, .int .i32 x.y, .int .i32 x.vx, .int .i32 x.vy, .int .u8 (x.h : Int), .int .u8 (x.c : Int), .int .u8 (x.f : Int)]) (.agg #[.int .i32 y.x, .int .i32 y.y, .int .i32 y.vx, .int .i32 y.vy, .int .u8 (y.h : Int), .int .u8 (y.c : Int), .int .u8 (y.f : Int)])).run Tryd.prog W = .ok (decide (x = y)) W := fun x y W => pl_in 9997 x y W
  simp only [show List.range 2 = [0, 1] from rfl, Op.eqItems, Sem.run_bind, p0, q, Result.andThen_ok]
  cases decide (a = c)
  · simp
  · simp only [Bool.not_true, Bool.false_eq_true, if_false, Sem.run_bind, p1, q, Result.andThen_ok]
    cases decide (b = e) <;> simp
end Go.Proofs.YtgmbdadkahcpcaaDoor
/- Same: whether two states are the same: its contract. -/
namespace Go.Proofs.YtgmbdadkahcpcaaDoor
open Go.RowKit
set_option linter.unusedVariables false

/-- The players of a state read whole. -/
def loadPair (v : Value) : Sem Value := Instr.loadAt 25 v
theorem loadAt_pair (v : Value) : Instr.loadAt 25 v = loadPair v := rfl
theorem info_PairSz : (Tryd.prog.info? 25).map (·.size) = some 14 := by kernel_rfl
theorem run_loadPair (w : World) (g : Nat) (h : (rowOf w g).size = 19) : (loadPair (.pointer (some ⟨g, 2, none⟩))).run Tryd.prog w = .ok (.agg ((rowOf w g).extract 2 16)) w := by
  obtain ⟨cs, t, fr, hg⟩ := rowOf_shape h (by omega)
  have e : rowOf w g = cs := by unfold rowOf; rw [hg]
  rw [e] at h ⊢
  have hl := run_loadCells_list (P := Tryd.prog) w ⟨g, 2, none⟩ ((cs.toList.drop 2).take 14) (fun j v hv => by
    have hadd : (⟨g, 2, none⟩ : Addr).add j = ⟨g, 2 + j, none⟩ := by unfold Addr.add; split <;> simp_all
    rw [hadd, cell_of_row w g (2 + j) cs t fr hg, ← Array.getElem?_toList]
    rw [List.getElem?_take] at hv
    split at hv
    · rwa [List.getElem?_drop] at hv
    · cases hv)
  have hlen : ((cs.toList.drop 2).take 14).length = 14 := by simp [h]
  rw [hlen] at hl
  have he : ((cs.toList.drop 2).take 14).toArray = cs.extract 2 16 := by
    apply Array.ext'
    simp
  rw [he] at hl
  obtain ⟨i, hi, hs⟩ := Option.map_eq_some_iff.1 info_PairSz
  have hagg : (isAgg 25).run Tryd.prog w = .ok true w := by
    unfold isAgg
    rw [Sem.run_bind, run_underlying Tryd.underlying25 w]
    simp
  simp [loadPair, Instr.loadAt, Instr.sureAddr, loadVar, hagg, sizeOf, typeInfo, hi, hs, hl]
theorem ext14 (a0 a1 a2 a3 a4 a5 a6 a7 a8 a9 a10 a11 a12 a13 a14 a15 a16 a17 a18 : Value) : (#[a0, a1, a2, a3, a4, a5, a6, a7, a8, a9, a10, a11, a12, a13, a14, a15, a16, a17, a18] : Array Value).extract 2 16 = #[a2, a3, a4, a5, a6, a7, a8, a9, a10, a11, a12, a13, a14, a15] := rfl
theorem sc_eql (a b c d : Int) (w : World) : (binOp .eql 28 (.agg #[.int .u16 a, .int .u16 b]) (.agg #[.int .u16 c, .int .u16 d])).run Tryd.prog w = .ok (.bool ((a == c) && (b == d))) w := by
  rw [run_eql_struct]
  have h1 : (Tryd.prog.info? 27).map (·.size) = some 1 := by kernel_rfl
  obtain ⟨i, hi, hs⟩ := Option.map_eq_some_iff.1 h1
  rw [run_equalIn_array w 9999 _ _ Tryd.underlying28 hi, show Tryd.prog.cellsOf 27 = 1 by kernel_rfl]
  simp only [show List.range 2 = [0, 1] from rfl, Op.eqItems]
  cases h0 : (a == c) <;> cases h1 : (b == d) <;> simp [go_sem, h0, h1]
theorem sh_neq (a b : Sh) (w : World) : (binOp .neq 66 (.agg #[.int .i32 a.x, .int .i32 a.y, .int .i32 a.vx, .int .i32 a.vy, .int .u8 (a.o : Int), .int .u8 (a.l : Int)]) (.agg #[.int .i32 b.x, .int .i32 b.y, .int .i32 b.vx, .int .i32 b.vy, .int .u8 (b.o : Int), .int .u8 (b.l : Int)])).run Tryd.prog w = .ok (.bool (!decide (a = b))) w := by
  rw [run_neq_struct, sh_in 9998 a b w]
  rfl
section
attribute [local go_sem ↓] sh_neq
set_option maxHeartbeats 1000000 in
set_option maxRecDepth 20000 in
theorem equal_c (ao bo : Option Addr) (c1 c2 : Nat) (l m : List Sh) (w : World) (h1 : Shs w ao l) (h2 : Shs w bo m) (hl : l.length ≤ maxLen) (hm : m.length ≤ maxLen) :
    Calls Tryd.prog 37 #[.slice ao l.length c1, .slice bo m.length c2] w fun E w' => E = .returned (.bool (decide (l = m))) ∧ w.grownBy w' none := by
  simp only [maxLen] at hl hm
  by_cases hlen : l.length = m.length
  · rw [← hlen]
    have HN : Hid (∀ k (h : k < l.length) (h' : k < m.length), ¬ (l[k]'h) = (m[k]'h') → decide (l = m) = false) := fun k h h' e => decide_eq_false (fun x => e (by subst x; rfl))
    have HY : Hid (∀ k, k = l.length → l.take k = m.take k → decide (l = m) = true) := fun k e x => decide_eq_true (by subst e; rwa [List.take_length, hlen, List.take_length] at x)
    have HLEN := Lib.hid hlen
    have HL := Lib.hid hl
    generalize decide (l = m) = ans at *
    have hb0 : ((l.length : Int) == (l.length : Int)) = true := by simp
    clear hlen hm
    go_enter Tryd.func37, Tryd.ntmps37
    go_wp2
    go_loopw [13] (fun v wr => ∃ k : Nat, k ≤ l.length ∧ v = .int .i64 k ∧ Hid (l.take k = m.take k) ∧ Hid (w.grownBy wr none)) (fun v _ => l.length - (intOf v).toNat)
    case atStart => exact ⟨0, by omega, rfl, rfl, grown_refl _ _⟩
    case round =>
      obtain ⟨k, hk, rfl, HE, HW⟩ := hrel
      by_cases hlt : k < l.length
      · have hlt2 : k < m.length := by rw [← HLEN.out]; exact hlt
        obtain ⟨_, pb, po, rfl, hp⟩ := h1 k hlt
        obtain ⟨_, qb, qo, rfl, hq⟩ := h2 k hlt2
        have hw : ∀ {b i : Nat} {v : Value}, w.cell? ⟨b, i, none⟩ = some v → wr.cell? ⟨b, i, none⟩ = some v := fun hv => go_at HW.out hv
        have p0 : wr.cell? ⟨pb, po + k * 6, none⟩ = some (.int .i32 (l[k]'hlt).x) := hw (hp 0 _ rfl)
        have p1 : wr.cell? ⟨pb, po + k * 6 + 1, none⟩ = some (.int .i32 (l[k]'hlt).y) := hw (hp 1 _ rfl)
        have p2 : wr.cell? ⟨pb, po + k * 6 + 2, none⟩ = some (.int .i32 (l[k]'hlt).vx) := hw (hp 2 _ rfl)
        have p3 : wr.cell? ⟨pb, po + k * 6 + 3, none⟩ = some (.int .i32 (l[k]'hlt).vy) := hw (hp 3 _ rfl)
        have p4 : wr.cell? ⟨pb, po + k * 6 + 4, none⟩ = some (.int .u8 ((l[k]'hlt).o : Int)) := hw (hp 4 _ rfl)
        have p5 : wr.cell? ⟨pb, po + k * 6 + 5, none⟩ = some (.int .u8 ((l[k]'hlt).l : Int)) := hw (hp 5 _ rfl)
        have q0 : wr.cell? ⟨qb, qo + k * 6, none⟩ = some (.int .i32 (m[k]'hlt2).x) := hw (hq 0 _ rfl)
        have q1 : wr.cell? ⟨qb, qo + k * 6 + 1, none⟩ = some (.int .i32 (m[k]'hlt2).y) := hw (hq 1 _ rfl)
        have q2 : wr.cell? ⟨qb, qo + k * 6 + 2, none⟩ = some (.int .i32 (m[k]'hlt2).vx) := hw (hq 2 _ rfl)
        have q3 : wr.cell? ⟨qb, qo + k * 6 + 3, none⟩ = some (.int .i32 (m[k]'hlt2).vy) := hw (hq 3 _ rfl)
        have q4 : wr.cell? ⟨qb, qo + k * 6 + 4, none⟩ = some (.int .u8 ((m[k]'hlt2).o : Int)) := hw (hq 4 _ rfl)
        have q5 : wr.cell? ⟨qb, qo + k * 6 + 5, none⟩ = some (.int .u8 ((m[k]'hlt2).l : Int)) := hw (hq 5 _ rfl)
        have HN2 := Lib.hid (HN.out k hlt hlt2)
        have HS : Hid ((l[k]'hlt) = (m[k]'hlt2) → l.take (k + 1) = m.take (k + 1)) := fun e => by
          rw [List.take_succ_eq_append_getElem hlt, List.take_succ_eq_append_getElem hlt2, HE.out, e]
        clear hp hq hw h1 h2 HE
        generalize (l[k]'hlt) = x at *
        generalize (m[k]'hlt2) = y at *
        have hki : (k : Int) < (l.length : Int) := by omega
        by_cases hxy : x = y
        · have HX := Lib.hid (HS.out hxy)
          have hd : decide (x = y) = true := decide_eq_true hxy
          clear HS HN2
          go_wp2_with fail
          go_quiet (fail)
          go_wp2
          go_roundw
          case rel => exact ⟨k + 1, by omega, by go_num, HX, HW.out.trans (grown_drewN _ _ _)⟩
          case measure => simp [intOf]; omega
        · obtain rfl := HN2.out hxy
          have hd : decide (x = y) = false := decide_eq_false hxy
          clear HS HN2
          go_wp2_with fail
          go_quiet (fail)
          go_wp2
          go_ret
          exact ⟨rfl, HW.out.trans (grown_drewN _ _ _)⟩
      · obtain rfl := HY.out k (by omega) HE.out
        go_wp2
        go_ret
        exact ⟨rfl, HW.out⟩
  · rw [show decide (l = m) = false from decide_eq_false (fun e => hlen (by rw [e]))]
    have hb0 : ((l.length : Int) == (m.length : Int)) = false := beq_eq_false_iff_ne.2 (by omega)
    go_enter Tryd.func37, Tryd.ntmps37
    go_wp2
    go_ret
    exact ⟨rfl, grown_refl _ _⟩
end
section
attribute [local go_sem ↓] loadAt_pair arr_eql sc_eql
attribute [local go_sem] run_loadPair rowOf_new rowOf_old rowOf_drew rowOf_drewN ext14
theorem same_and (a b : St) : same a b = (((a.fr : Int) == (b.fr : Int)) && (((a.sd : Int) == (b.sd : Int)) && ((decide (a.p = b.p) && decide (a.q = b.q)) && (decide (a.ss = b.ss) && (((a.s0 : Int) == (b.s0 : Int)) && ((a.s1 : Int) == (b.s1 : Int))))))) := by
  unfold same
  rw [Bool.eq_iff_iff]
  simp [st_eq]
  intros
  constructor
  · rintro ⟨a1, a2, a3, a4, a5, a6, a7⟩; exact ⟨by omega, by omega, ⟨a3, a4⟩, a5, by omega, by omega⟩
  · rintro ⟨a1, a2, ⟨a3, a4⟩, a5, a6, a7⟩; exact ⟨by omega, by omega, a3, a4, a5, by omega, by omega⟩
set_option maxHeartbeats 1000000 in
set_option maxRecDepth 20000 in
theorem same_c (a b : St) (ao bo : Option Addr) (c1 c2 : Nat) (w : World) (h1 : Shs w ao a.ss) (h2 : Shs w bo b.ss) (hl : a.ss.length ≤ maxLen) (hm : b.ss.length ≤ maxLen) :
    Calls Tryd.prog 23 #[sv a ao c1, sv b bo c2] w fun E w' => E = .returned (.bool (same a b)) ∧ w.grownBy w' none := by
  have hg : w.grownBy ((w.alloc (.cells (stc a ao c1) 30)).alloc (.cells (stc b bo c2) 30)) none := (grown_alloc _ _).trans (grown_alloc _ _)
  have HC := Lib.hid (equal_c ao bo c1 c2 a.ss b.ss _ (Shs_grown h1 hg (by simp)) (Shs_grown h2 hg (by simp)) hl hm)
  have hBa : Bk ((w.alloc (.cells (stc a ao c1) 30)).alloc (.cells (stc b bo c2) 30)) w.heap.size a ao c1 := heap_alloc2_old w _ _
  have hBb : Bk ((w.alloc (.cells (stc a ao c1) 30)).alloc (.cells (stc b bo c2) 30)) (w.heap.size + 1) b bo c2 := heap_alloc2_new w _ _
  have HBa := Lib.hid hBa
  have HBb := Lib.hid hBb
  have HG := Lib.hid hg
  rw [same_and]
  clear hg hBa hBb h1 h2
  generalize decide (a.ss = b.ss) = e3 at *
  cases h0 : ((a.fr : Int) == (b.fr : Int))
  · go_enter Tryd.func23, Tryd.ntmps23
    go_wp2
    go_ret
    exact ⟨rfl, HG.out⟩
  · cases h1 : ((a.sd : Int) == (b.sd : Int))
    · go_enter Tryd.func23, Tryd.ntmps23
      go_wp2
      go_ret
      exact ⟨rfl, HG.out⟩
    · cases h2 : (decide (a.p = b.p) && decide (a.q = b.q))
      · go_enter Tryd.func23, Tryd.ntmps23
        go_wp2
        go_ret
        exact ⟨rfl, HG.out⟩
      · go_enter Tryd.func23, Tryd.ntmps23
        go_wp2_with fail
        refine HC.out.mono ?_
        rintro E w1 ⟨rfl, hb1⟩
        have a17 := (bk_grown HBa.out hb1 (by simp)).of 17 _ rfl
        have a18 := (bk_grown HBa.out hb1 (by simp)).of 18 _ rfl
        have b17 := (bk_grown HBb.out hb1 (by simp)).of 17 _ rfl
        have b18 := (bk_grown HBb.out hb1 (by simp)).of 18 _ rfl
        have HG1 := Lib.hid (HG.out.trans hb1)
        clear hb1
        cases e3
        · go_wp2
          go_ret
          exact ⟨rfl, HG1.out⟩
        · go_wp2
          go_ret
          exact ⟨by simp, HG1.out⟩
end
end Go.Proofs.YtgmbdadkahcpcaaDoor
/- Start, and the statements' own first state: contracts. -/
namespace Go.Proofs.YtgmbdadkahcpcaaDoor
open Go.RowKit
set_option linter.unusedVariables false

/-- A block of a state's cells lies there, none of them frozen. -/
def okRow (w : World) (g : Nat) : Prop := ∃ cs t, Cells w g t cs ∧ cs.size = 19
theorem okRow_new (w : World) (g : Nat) (cs : Array Value) (t : TypeId) (h : g = w.heap.size) (hc : cs.size = 19) : okRow (w.alloc (.cells cs t)) g := by
  subst h; exact ⟨cs, t, Cells.made w t cs, hc⟩
theorem okRow_old (w : World) (g : Nat) (o : Obj) (h : okRow w g) : okRow (w.alloc o) g := by
  obtain ⟨cs, t, hc, hs⟩ := h; exact ⟨cs, t, hc.alloc o, hs⟩
theorem okRow_bk {w : World} {g : Nat} {s : St} {ao : Option Addr} {cap : Nat} (h : Bk w g s ao cap) : okRow w g := ⟨_, _, h, rfl⟩
theorem run_storeOk (w : World) (g : Nat) (cs : Array Value) (h : okRow w g) (hc : cs.size = 19) (h1 : cs.toList.all Value.oneCell' = true) :
    (storeState (.pointer (some ⟨g, 0, none⟩)) (.agg cs)).run Tryd.prog w = .ok () (w.setRow g cs) := by
  obtain ⟨old, t, ho, hs⟩ := h
  exact run_storeState ho hs hc (fun v hv => List.all_eq_true.1 h1 v hv)
theorem bk_setRow {w : World} {g : Nat} {old : Array Value} (h : Cells w g 30 old) (s : St) (ao : Option Addr) (cap : Nat) : Bk (w.setRow g (stc s ao cap)) g s ao cap := setRow_heap w g old _ _ _ h
theorem cells_far {w : World} {g g' : Nat} {t : TypeId} {cs : Array Value} (h : Cells w g t cs) (hne : g ≠ g') (cs' : Array Value) : Cells (w.setRow g' cs') g t cs := (setRow_other _ _ _ _ hne).trans h
def start (n : Nat) : St := ⟨0, n, ⟨8192, 14336, 0, 0, 100, 0, 0⟩, ⟨53248, 14336, 0, 0, 100, 0, 1⟩, [], 0, 0⟩
theorem ret_state {W : World} {g : Nat} {cs : Array Value} (tmps : Array Value) (p : Tmp) (fn : Func) (hr : fn.results = #[.cell p 30]) (h : Cells W g 30 cs) (hs : cs.size = 19) (h2 : tmps.getD p undef = .pointer (some ⟨g, 0, none⟩)) :
    (results fn tmps).run Tryd.prog W = .ok (.agg cs) W := results_cell_row hr tmps W g _ cs (0, 0) _ h2 h Tryd.underlying30 rfl (by rw [hs]; exact info_StSz)
attribute [local go_sem ↓] loadAt_state storeAt_state
attribute [local go_sem] run_loadState rowOf_new rowOf_old rowOf_drew rowOf_drewN run_storeOk okRow_new okRow_old Value.oneCell'
set_option maxHeartbeats 1000000 in
set_option maxRecDepth 20000 in
theorem start_c (n : Nat) (w : World) : Calls Tryd.prog 25 #[.int .u64 (n : Int)] w fun E w' => E = .returned (sv (start n) none 0) ∧ w.grownBy w' none := by
  have hok : ∀ A B : Obj, okRow (((w.alloc (.cells #[.int .u64 0, .int .u64 0, .int .i32 0, .int .i32 0, .int .i32 0, .int .i32 0, .int .u8 0, .int .u8 0, .int .u8 0, .int .i32 0, .int .i32 0, .int .i32 0, .int .i32 0, .int .u8 0, .int .u8 0, .int .u8 0, .slice none 0 0, .int .u16 0, .int .u16 0] 30)).alloc A).alloc B) w.heap.size := fun A B => okRow_old _ _ _ (okRow_old _ _ _ (okRow_new _ _ _ _ rfl rfl))
  go_enter Tryd.func25, Tryd.ntmps25
  go_wp2
  have hc : ∀ A B : Obj, Cells (((w.alloc (.cells #[.int .u64 0, .int .u64 0, .int .i32 0, .int .i32 0, .int .i32 0, .int .i32 0, .int .u8 0, .int .u8 0, .int .u8 0, .int .i32 0, .int .i32 0, .int .i32 0, .int .i32 0, .int .u8 0, .int .u8 0, .int .u8 0, .slice none 0 0, .int .u16 0, .int .u16 0] 30)).alloc A).alloc B) w.heap.size 30 #[.int .u64 0, .int .u64 0, .int .i32 0, .int .i32 0, .int .i32 0, .int .i32 0, .int .u8 0, .int .u8 0, .int .u8 0, .int .i32 0, .int .i32 0, .int .i32 0, .int .i32 0, .int .u8 0, .int .u8 0, .int .u8 0, .slice none 0 0, .int .u16 0, .int .u16 0] := fun A B => ((Cells.made w _ _).alloc A).alloc B
  refine bodyPost_ret (v := sv (start n) none 0) ?_ rfl ?_
  · exact ret_state _ 2 _ Tryd.results25 (setRow_heap _ _ _ _ _ _ (hc _ _)) rfl rfl
  exact ⟨rfl, grown_of_below (below_setRow ((((Below.refl _ w).alloc (Nat.le_refl _) _).alloc (by simp) _).alloc (by simp; omega) _) (Nat.le_refl _) _)⟩
/-- The statements' own first state: that of 1, with a shot. -/
def shot1 : Sh := ⟨5, 6, -2048, 2048, 1, 40⟩
def frst : St := { start 1 with ss := [shot1] }
theorem fit_shot1 : shot1.fit := ⟨⟨by decide, by decide⟩, ⟨by decide, by decide⟩, ⟨by decide, by decide⟩, ⟨by decide, by decide⟩, by decide, by decide⟩
theorem shs_one {w : World} {g : Nat} (h : Cells w g 66 #[.int .i32 5, .int .i32 6, .int .i32 (-2048), .int .i32 2048, .int .u8 1, .int .u8 40]) : Shs w (some ⟨g, 0, none⟩) [shot1] := fun k hk => by
  obtain rfl : k = 0 := by simp at hk; omega
  refine ⟨fit_shot1, g, 0, rfl, fun i v hv => ?_⟩
  rw [show 0 + 0 * 6 + i = i by omega, h.cell]
  match i, hv with
  | 0, hv | 1, hv | 2, hv | 3, hv | 4, hv | 5, hv => exact hv
  | i + 6, hv => simp at hv
end Go.Proofs.YtgmbdadkahcpcaaDoor
/- The statements' own fails and works: contracts. -/
namespace Go.Proofs.YtgmbdadkahcpcaaDoor
open Go.RowKit
set_option linter.unusedVariables false

theorem shs_nil (w : World) (ao : Option Addr) : Shs w ao [] := fun k h => by simp at h
theorem rowOf_setRow (w : World) (g : Nat) (cs : Array Value) (h : okRow w g) : rowOf (w.setRow g cs) g = cs := by
  obtain ⟨old, t, ho, _⟩ := h
  exact rowOf_cells (setRow_heap w g old cs t _ ho)
theorem okRow_setRow (w : World) (g : Nat) (cs : Array Value) (h : okRow w g) (hs : cs.size = 19) : okRow (w.setRow g cs) g := by
  obtain ⟨old, t, ho, _⟩ := h
  exact ⟨cs, t, setRow_heap w g old cs t _ ho, hs⟩
theorem rowOf_own (w : World) (z cs : Array Value) (t : TypeId) : rowOf ((w.alloc (.cells z t)).setRow w.heap.size cs) w.heap.size = cs := rowOf_cells (setRow_heap _ _ z cs t _ (Cells.made w t z))
attribute [local go_sem ↓] loadAt_state storeAt_state
attribute [local go_sem] run_loadState rowOf_new rowOf_old rowOf_drew rowOf_drewN run_storeOk okRow_new okRow_old Value.oneCell' rowOf_own
theorem grown_own (w : World) (o : Obj) (cs : Array Value) : w.grownBy ((w.alloc o).setRow w.heap.size cs) none :=
  grown_of_below (below_setRow ((Below.refl _ w).alloc (Nat.le_refl _) _) (Nat.le_refl _) _)
theorem good_frst : frst.good = true := by decide
theorem fit_frst : frst.fit := ⟨by decide, by decide, ⟨⟨by decide, by decide⟩, ⟨by decide, by decide⟩, ⟨by decide, by decide⟩, ⟨by decide, by decide⟩, by decide, by decide, by decide⟩, ⟨⟨by decide, by decide⟩, ⟨by decide, by decide⟩, ⟨by decide, by decide⟩, ⟨by decide, by decide⟩, by decide, by decide, by decide⟩, fun x hx => by
  obtain rfl : x = shot1 := by simpa [frst] using hx
  exact fit_shot1, by decide, by decide⟩
theorem good_start1 : (start 1).good = true := by decide
theorem fit_start0 : (start 0).fit := ⟨by decide, by decide, ⟨⟨by decide, by decide⟩, ⟨by decide, by decide⟩, ⟨by decide, by decide⟩, ⟨by decide, by decide⟩, by decide, by decide, by decide⟩, ⟨⟨by decide, by decide⟩, ⟨by decide, by decide⟩, ⟨by decide, by decide⟩, ⟨by decide, by decide⟩, by decide, by decide, by decide⟩, fun x hx => by simp [start] at hx, by decide, by decide⟩
theorem fit_start {n : Nat} (hn : n < 18446744073709551616) : (start n).fit := ⟨fit_start0.1, hn, fit_start0.2.2⟩
theorem len_frst : (ste frst).length = 77 := by
  have h1 := pe_len frst.p
  have h2 := pe_len frst.q
  have h3 := hes_len frst.ss
  have h4 : (vr 1).length = 1 := rfl
  have h5 : frst.ss.length = 1 := rfl
  simp only [ste, List.length_append, le_length, h1, h2, h3, h5, h4]
theorem len_start : (ste (start 1)).length = 59 := by
  have h1 := pe_len (start 1).p
  have h2 := pe_len (start 1).q
  have h3 := hes_len (start 1).ss
  have h4 : (vr 0).length = 1 := rfl
  have h5 : (start 1).ss.length = 0 := rfl
  simp only [ste, List.length_append, le_length, h1, h2, h3, h5, h4]
theorem tst_nil : tst [] = (10, .zero) := by
  have := tst_cut (fit_start (n := 1) (by decide)) good_start1 [] (ste (start 1)) rfl (fun e => by have := len_start; rw [e] at this; simp at this)
  exact this
theorem rowOf_on {B : Nat} {wd : World} {g : Nat} {cs : Array Value} (h : rowOf wd g = cs) (hg : g < B) : ∀ w', On B wd w' → rowOf w' g = cs := fun w' o => by
  unfold rowOf at h ⊢; rw [Below.block o g hg]; exact h
theorem same_self (a : St) (ao bo : Option Addr) (c1 c2 : Nat) (w : World) (h1 : Shs w ao a.ss) (h2 : Shs w bo a.ss) (hl : a.ss.length ≤ maxLen) :
    Calls Tryd.prog 23 #[sv a ao c1, sv a bo c2] w fun E w' => E = .returned (.bool true) ∧ w.grownBy w' none :=
  (same_c a a ao bo c1 c2 w h1 h2 hl hl).mono fun E w' ⟨e, h⟩ => ⟨by rw [e]; simp [same], h⟩
end Go.Proofs.YtgmbdadkahcpcaaDoor
/- A state as an argument of a statement: taken apart. -/
namespace Go.Proofs.YtgmbdadkahcpcaaDoor
open Go.ChangeShapes Go.WideShapes Go.RowKit Go.Deep
set_option linter.unusedVariables false

theorem arr19 (cs : Array Value) (h : cs.size = 19) : ∃ c0 c1 c2 c3 c4 c5 c6 c7 c8 c9 c10 c11 c12 c13 c14 c15 c16 c17 c18, cs = #[c0, c1, c2, c3, c4, c5, c6, c7, c8, c9, c10, c11, c12, c13, c14, c15, c16, c17, c18] := by
  obtain ⟨l⟩ := cs
  match l, h with
  | [c0, c1, c2, c3, c4, c5, c6, c7, c8, c9, c10, c11, c12, c13, c14, c15, c16, c17, c18], _ => exact ⟨c0, c1, c2, c3, c4, c5, c6, c7, c8, c9, c10, c11, c12, c13, c14, c15, c16, c17, c18, rfl⟩
theorem addr_flat {w : World} {a : Addr} {v : Value} (h : w.cell? (a.add 0) = some v) : ∃ b o, a = ⟨b, o, none⟩ := by
  obtain ⟨b, off, spot⟩ := a
  have hspot : spot = none := by simpa [Addr.add] using World.cell?_spot h
  subst hspot
  exact ⟨b, off, rfl⟩
section
variable {H : Type} {enc : TypeId × Value → H} {P : Program} {w : World} {base : Nat} {spare : Nat → Bool} {held : Bool}
theorem trod_field {t : TypeId} {fs : Array Field} {fuel : Nat} {cs : List Value} {x : DataW H × List MemPlace} (ht : P.underlying t = some (.struct fs)) (h : DataW.trod enc P w base spare held fuel t cs = some x) {i : Nat} {f : Field} (hi : fs[i]? = some f) :
    ∃ n y, DataW.trod enc P w base spare held n f.type ((cs.drop f.offset).take (P.cellsOf f.type)) = some y := by
  obtain ⟨xs, n, _, _, _, hlen, hf⟩ := DataW.trod_struct ht h
  obtain ⟨hlt, _⟩ := Array.getElem?_eq_some_iff.1 hi
  have := hf i f hi
  rw [List.getElem?_eq_getElem (by omega)] at this
  exact ⟨n, _, this⟩
theorem trod_elem {t e : TypeId} {k : Nat} {fuel : Nat} {cs : List Value} {x : DataW H × List MemPlace} (ht : P.underlying t = some (.array k e)) (h : DataW.trod enc P w base spare held fuel t cs = some x) {i : Nat} (hi : i < k) :
    ∃ n y, DataW.trod enc P w base spare held n e ((cs.drop (i * P.cellsOf e)).take (P.cellsOf e)) = some y := by
  obtain ⟨xs, n, _, _, _, hlen, hf⟩ := DataW.trod_array ht h
  have := hf i hi
  rw [List.getElem?_eq_getElem (by omega)] at this
  exact ⟨n, _, this⟩
end
section
variable {H : Type} {enc : TypeId × Value → H} {w : World} {base : Nat} {spare : Nat → Bool} {held : Bool}
theorem open_player {n : Nat} {c0 c1 c2 c3 c4 c5 c6 : Value} {y : DataW H × List MemPlace} (h : DataW.trod enc Tryd.prog w base spare held n 24 [c0, c1, c2, c3, c4, c5, c6] = some y) :
    ∃ p : Pl, p.fit ∧ c0 = .int .i32 p.x ∧ c1 = .int .i32 p.y ∧ c2 = .int .i32 p.vx ∧ c3 = .int .i32 p.vy ∧ c4 = .int .u8 (p.h : Int) ∧ c5 = .int .u8 (p.c : Int) ∧ c6 = .int .u8 (p.f : Int) := by
  have qi : Tryd.prog.cellsOf 21 = 1 := by kernel_rfl
  have qb : Tryd.prog.cellsOf 5 = 1 := by kernel_rfl
  obtain ⟨n0, y0, h0⟩ := trod_field Tryd.underlying24 h (i := 0) rfl
  obtain ⟨z0, e0, _, w0⟩ := DataW.trod_int Tryd.underlying21 h0
  simp [qi] at e0
  subst e0
  obtain ⟨n1, y1, h1⟩ := trod_field Tryd.underlying24 h (i := 1) rfl
  obtain ⟨z1, e1, _, w1⟩ := DataW.trod_int Tryd.underlying21 h1
  simp [qi] at e1
  subst e1
  obtain ⟨n2, y2, h2⟩ := trod_field Tryd.underlying24 h (i := 2) rfl
  obtain ⟨z2, e2, _, w2⟩ := DataW.trod_int Tryd.underlying21 h2
  simp [qi] at e2
  subst e2
  obtain ⟨n3, y3, h3⟩ := trod_field Tryd.underlying24 h (i := 3) rfl
  obtain ⟨z3, e3, _, w3⟩ := DataW.trod_int Tryd.underlying21 h3
  simp [qi] at e3
  subst e3
  obtain ⟨n4, y4, h4⟩ := trod_field Tryd.underlying24 h (i := 4) rfl
  obtain ⟨z4, e4, _, w4⟩ := DataW.trod_int Tryd.underlying5 h4
  simp [qb] at e4
  subst e4
  obtain ⟨n5, y5, h5⟩ := trod_field Tryd.underlying24 h (i := 5) rfl
  obtain ⟨z5, e5, _, w5⟩ := DataW.trod_int Tryd.underlying5 h5
  simp [qb] at e5
  subst e5
  obtain ⟨n6, y6, h6⟩ := trod_field Tryd.underlying24 h (i := 6) rfl
  obtain ⟨z6, e6, _, w6⟩ := DataW.trod_int Tryd.underlying5 h6
  simp [qb] at e6
  subst e6
  have b0 := bounds_i32 w0
  have b1 := bounds_i32 w1
  have b2 := bounds_i32 w2
  have b3 := bounds_i32 w3
  have b4 := bounds_u8 w4
  have b5 := bounds_u8 w5
  have b6 := bounds_u8 w6
  refine ⟨⟨z0, z1, z2, z3, z4.toNat, z5.toNat, z6.toNat⟩, ⟨b0, b1, b2, b3, (by show z4.toNat < 256; omega), (by show z5.toNat < 256; omega), (by show z6.toNat < 256; omega)⟩, rfl, rfl, rfl, rfl, (by show Value.int .u8 z4 = .int .u8 (z4.toNat : Int); rw [Int.toNat_of_nonneg (by omega)]), (by show Value.int .u8 z5 = .int .u8 (z5.toNat : Int); rw [Int.toNat_of_nonneg (by omega)]), (by show Value.int .u8 z6 = .int .u8 (z6.toNat : Int); rw [Int.toNat_of_nonneg (by omega)])⟩
theorem open_shot {n : Nat} {c0 c1 c2 c3 c4 c5 : Value} {y : DataW H × List MemPlace} (h : DataW.trod enc Tryd.prog w base spare held n 66 [c0, c1, c2, c3, c4, c5] = some y) :
    ∃ p : Sh, p.fit ∧ c0 = .int .i32 p.x ∧ c1 = .int .i32 p.y ∧ c2 = .int .i32 p.vx ∧ c3 = .int .i32 p.vy ∧ c4 = .int .u8 (p.o : Int) ∧ c5 = .int .u8 (p.l : Int) := by
  have qi : Tryd.prog.cellsOf 21 = 1 := by kernel_rfl
  have qb : Tryd.prog.cellsOf 5 = 1 := by kernel_rfl
  obtain ⟨n0, y0, h0⟩ := trod_field Tryd.underlying66 h (i := 0) rfl
  obtain ⟨z0, e0, _, w0⟩ := DataW.trod_int Tryd.underlying21 h0
  simp [qi] at e0
  subst e0
  obtain ⟨n1, y1, h1⟩ := trod_field Tryd.underlying66 h (i := 1) rfl
  obtain ⟨z1, e1, _, w1⟩ := DataW.trod_int Tryd.underlying21 h1
  simp [qi] at e1
  subst e1
  obtain ⟨n2, y2, h2⟩ := trod_field Tryd.underlying66 h (i := 2) rfl
  obtain ⟨z2, e2, _, w2⟩ := DataW.trod_int Tryd.underlying21 h2
  simp [qi] at e2
  subst e2
  obtain ⟨n3, y3, h3⟩ := trod_field Tryd.underlying66 h (i := 3) rfl
  obtain ⟨z3, e3, _, w3⟩ := DataW.trod_int Tryd.underlying21 h3
  simp [qi] at e3
  subst e3
  obtain ⟨n4, y4, h4⟩ := trod_field Tryd.underlying66 h (i := 4) rfl
  obtain ⟨z4, e4, _, w4⟩ := DataW.trod_int Tryd.underlying5 h4
  simp [qb] at e4
  subst e4
  obtain ⟨n5, y5, h5⟩ := trod_field Tryd.underlying66 h (i := 5) rfl
  obtain ⟨z5, e5, _, w5⟩ := DataW.trod_int Tryd.underlying5 h5
  simp [qb] at e5
  subst e5
  have b0 := bounds_i32 w0
  have b1 := bounds_i32 w1
  have b2 := bounds_i32 w2
  have b3 := bounds_i32 w3
  have b4 := bounds_u8 w4
  have b5 := bounds_u8 w5
  refine ⟨⟨z0, z1, z2, z3, z4.toNat, z5.toNat⟩, ⟨b0, b1, b2, b3, (by show z4.toNat < 256; omega), (by show z5.toNat < 256; omega)⟩, rfl, rfl, rfl, rfl, (by show Value.int .u8 z4 = .int .u8 (z4.toNat : Int); rw [Int.toNat_of_nonneg (by omega)]), (by show Value.int .u8 z5 = .int .u8 (z5.toNat : Int); rw [Int.toNat_of_nonneg (by omega)])⟩
set_option maxRecDepth 20000 in
theorem open_shots {n : Nat} {cs : List Value} {y : DataW H × List MemPlace} (h : DataW.trod enc Tryd.prog w base spare held n 26 cs = some y) :
    ∃ (l : List Sh) (ao : Option Addr) (cap : Nat), cs = [.slice ao l.length cap] ∧ l.length ≤ maxLen ∧ (ao = none → cap = 0) ∧ Shs w ao l := by
  rcases open_slice Tryd.underlying26 h with ⟨hcs, _⟩ | ⟨ad, len, cap, m, n, D, Pl, hcs, _, hl, hm, hmm, _, hel⟩
  · exact ⟨[], none, 0, hcs, by simp [maxLen], fun _ => rfl, fun k h => by simp at h⟩
  · have hlm : len ≤ m := by rw [hmm]; split <;> omega
    have hC : Tryd.prog.cellsOf 66 = 6 := by kernel_rfl
    have plain : 0 < len → ∃ b o, ad = ⟨b, o, none⟩ := fun h0 => by
      obtain ⟨cs, hcells, _⟩ := hel 0 (by omega)
      rw [hC] at hcells
      obtain ⟨_, hcl, hat⟩ := World.cells?_some hcells
      have h1 := hat 0 (by omega)
      rw [Deep.add_add, List.getElem?_eq_getElem (by omega)] at h1
      exact addr_flat h1
    have one : ∀ i, i < len → ∃ x : Sh, x.fit ∧ ∃ b o, some ad = some ⟨b, o, none⟩ ∧ ∀ j v, [Value.int .i32 x.x, .int .i32 x.y, .int .i32 x.vx, .int .i32 x.vy, .int .u8 (x.o : Int), .int .u8 (x.l : Int)][j]? = some v → w.cell? ⟨b, o + i * 6 + j, none⟩ = some v := by
      intro i hi
      obtain ⟨cs, hcells, ht⟩ := hel i (by omega)
      rw [hC] at hcells
      obtain ⟨_, hcl, hat⟩ := World.cells?_some hcells
      match cs, hcl with
      | [c0, c1, c2, c3, c4, c5], _ =>
        obtain ⟨x, hx, rfl, rfl, rfl, rfl, rfl, rfl⟩ := open_shot ht
        obtain ⟨b, o, rfl⟩ := plain (by omega)
        refine ⟨x, hx, b, o, rfl, fun j v hv => ?_⟩
        have hj : j < 6 := by
          rcases Nat.lt_or_ge j 6 with h1 | h1
          · exact h1
          · rw [List.getElem?_eq_none (by simpa using h1)] at hv; cases hv
        have := hat j (by omega)
        rw [Deep.add_add, Go.WideShapes.add_plain, hv, ← Nat.add_assoc] at this
        exact this
    refine ⟨(List.range len).pmap (fun i hi => Classical.choose (one i hi)) (fun i hi => List.mem_range.1 hi), some ad, cap, ?_, ?_, (fun e => by cases e), fun i hi => ?_⟩
    · rw [hcs]; simp
    · simp; omega
    · have hi2 : i < len := by simpa using hi
      have hx : ((List.range len).pmap (fun i hi => Classical.choose (one i hi)) (fun i hi => List.mem_range.1 hi))[i]'hi = Classical.choose (one i hi2) := by simp
      rw [hx]
      exact Classical.choose_spec (one i hi2)
set_option maxRecDepth 20000 in
/-- A state, by value: opened. -/
theorem open_state {r : Reach} {b0 : Nat} {v : Value} {d : DataW H} {p : List MemPlace} (hv : Value.okWide Tryd.prog w r b0 30 v) (h : DataW.Trod enc Tryd.prog w base spare held 30 v d p) :
    ∃ (s : St) (ao : Option Addr) (cap : Nat), v = sv s ao cap ∧ s.fit ∧ s.ss.length ≤ maxLen ∧ (ao = none → cap = 0) ∧ Shs w ao s.ss := by
  obtain ⟨cs, rfl, hsz⟩ := okWide_struct Tryd.underlying30 hv
  rw [show Tryd.prog.cellsOf 30 = 19 by kernel_rfl] at hsz
  obtain ⟨c0, c1, c2, c3, c4, c5, c6, c7, c8, c9, c10, c11, c12, c13, c14, c15, c16, c17, c18, rfl⟩ := arr19 cs hsz
  obtain ⟨fuel, hf⟩ := h
  have q64 : Tryd.prog.cellsOf 22 = 1 := by kernel_rfl
  have q16 : Tryd.prog.cellsOf 27 = 1 := by kernel_rfl
  have qp : Tryd.prog.cellsOf 24 = 7 := by kernel_rfl
  have qa : Tryd.prog.cellsOf 25 = 14 := by kernel_rfl
  have qs : Tryd.prog.cellsOf 26 = 1 := by kernel_rfl
  have qc : Tryd.prog.cellsOf 28 = 2 := by kernel_rfl
  obtain ⟨n0, y0, h0⟩ := trod_field Tryd.underlying30 hf (i := 0) rfl
  obtain ⟨n1, y1, h1⟩ := trod_field Tryd.underlying30 hf (i := 1) rfl
  obtain ⟨n2, y2, h2⟩ := trod_field Tryd.underlying30 hf (i := 2) rfl
  obtain ⟨n3, y3, h3⟩ := trod_field Tryd.underlying30 hf (i := 3) rfl
  obtain ⟨n4, y4, h4⟩ := trod_field Tryd.underlying30 hf (i := 4) rfl
  obtain ⟨z0, e0, _, w0⟩ := DataW.trod_int Tryd.underlying22 h0
  obtain ⟨z1, e1, _, w1⟩ := DataW.trod_int Tryd.underlying22 h1
  obtain ⟨l, ao, cap, e3, hl, hn, hs⟩ := open_shots h3
  obtain ⟨m0, x0, g0⟩ := trod_elem Tryd.underlying25 h2 (i := 0) (by omega)
  obtain ⟨m1, x1, g1⟩ := trod_elem Tryd.underlying25 h2 (i := 1) (by omega)
  obtain ⟨m2, x2, g2⟩ := trod_elem Tryd.underlying28 h4 (i := 0) (by omega)
  obtain ⟨m3, x3, g3⟩ := trod_elem Tryd.underlying28 h4 (i := 1) (by omega)
  simp [Value.cells, q64] at e0 e1
  simp [Value.cells, qs] at e3
  simp [Value.cells, qa, qp] at g0 g1
  simp [Value.cells, qc, q16] at g2 g3
  obtain ⟨z2, e4, _, w2⟩ := DataW.trod_int Tryd.underlying27 g2
  obtain ⟨z3, e5, _, w3⟩ := DataW.trod_int Tryd.underlying27 g3
  simp at e4 e5
  obtain ⟨p, hp, rfl, rfl, rfl, rfl, rfl, rfl, rfl⟩ := open_player g0
  obtain ⟨q, hq, rfl, rfl, rfl, rfl, rfl, rfl, rfl⟩ := open_player g1
  subst e0 e1 e3 e4 e5
  have b0 := bounds_u64 w0
  have b1 := bounds_u64 w1
  have b2 := bounds_u16 w2
  have b3 := bounds_u16 w3
  obtain ⟨k0, rfl⟩ := Int.eq_ofNat_of_zero_le b0.1
  obtain ⟨k1, rfl⟩ := Int.eq_ofNat_of_zero_le b1.1
  obtain ⟨k2, rfl⟩ := Int.eq_ofNat_of_zero_le b2.1
  obtain ⟨k3, rfl⟩ := Int.eq_ofNat_of_zero_le b3.1
  exact ⟨⟨k0, k1, p, q, l, k2, k3⟩, ao, cap, rfl, ⟨by show k0 < _; omega, by show k1 < _; omega, hp, hq, fun x hx => by
    obtain ⟨i, hi, rfl⟩ := List.getElem_of_mem hx
    exact (hs i hi).1, by show k2 < _; omega, by show k3 < _; omega⟩, hl, hn, hs⟩
end
end Go.Proofs.YtgmbdadkahcpcaaDoor
/- A copy of a state's shots by append; Copy, the program's and the document's: contracts. -/
namespace Go.Proofs.YtgmbdadkahcpcaaDoor
open Go.RowKit
set_option linter.unusedVariables false

theorem hall_get : ∀ (l : List Sh) (j : Nat) (u : Value), (Hall l)[j]? = some u → ∃ (hk : j / 6 < l.length), (Hcs (l[j / 6]'hk))[j % 6]? = some u
  | [], j, u, h => by simp [Hall] at h
  | a :: l, j, u, h => by
    simp only [Hall, List.flatMap_cons] at h
    rcases Nat.lt_or_ge j 6 with h6 | h6
    · rw [List.getElem?_append_left (by simp [Hcs]; omega)] at h
      have e0 : j / 6 = 0 := by omega
      have e1 : j % 6 = j := by omega
      refine ⟨by rw [e0]; simp, ?_⟩
      simp only [e0, e1]
      exact h
    · rw [List.getElem?_append_right (by simp [Hcs]; omega)] at h
      obtain ⟨hk, hq⟩ := hall_get l (j - 6) u (by simpa [Hall, Hcs] using h)
      have e0 : j / 6 = (j - 6) / 6 + 1 := by omega
      have e1 : j % 6 = (j - 6) % 6 := by omega
      refine ⟨by rw [e0]; simpa using hk, ?_⟩
      simp only [e0, e1, List.getElem_cons_succ]
      exact hq
theorem Hall_len (l : List Sh) : (Hall l).length = l.length * 6 := by
  induction l with
  | nil => rfl
  | cons a l ih => simp only [Hall, List.flatMap_cons, List.length_append, List.length_cons] at ih ⊢; rw [ih]; simp [Hcs]; omega
theorem Hall_one (l : List Sh) : ∀ u ∈ Hall l, u.oneCell' = true := fun u hu => by
  obtain ⟨x, _, hx⟩ := List.mem_flatMap.1 hu
  simp only [Hcs, List.mem_cons, List.not_mem_nil, or_false] at hx
  rcases hx with rfl | rfl | rfl | rfl | rfl | rfl <;> rfl
theorem shs_news {w : World} {b o : Nat} {l : List Sh} (h : Shs w (some ⟨b, o, none⟩) l) : ∀ j u, (Hall l)[j]? = some u → w.cell? ((⟨b, o, none⟩ : Addr).add j) = some u := fun j u hu => by
  obtain ⟨hk, hq⟩ := hall_get l j u hu
  obtain ⟨_, b', o', e, hc⟩ := h (j / 6) hk
  obtain ⟨rfl, rfl⟩ : b = b' ∧ o = o' := by
    injection e with e
    injection e with e1 e2
    exact ⟨e1, e2⟩
  have := hc (j % 6) u hq
  have ea : (⟨b, o, none⟩ : Addr).add j = ⟨b, o + j / 6 * 6 + j % 6, none⟩ := by
    unfold Addr.add
    have : o + j = o + j / 6 * 6 + j % 6 := by omega
    split <;> simp_all
  rw [ea]
  exact this
theorem wpList_append_shots {w : World} {ops : Array Oper} {rest : List Oper} {o : Oper} {a : Act} {Q : Exit → Act → World → Prop} (hgd : o.guard = none) (s x : Operand)
    (ho : o.op = .call { callee := .builtin .append, args := #[s, x], argTypes := #[26, 26] }) (ao : Option Addr) (cap : Nat) (l : List Sh) (hs : a.eval s = .slice none 0 0) (hx : a.eval x = .slice ao l.length cap)
    (hsh : Shs w ao l) (hn : ao = none → cap = 0) (hl : l.length ≤ 1000000)
    (h : ∀ ao' cap' w', w'.ownsRow w.heap.size 66 6 (.slice ao' l.length cap') l.length (Hall l) → w.grownBy w' none → (ao' = none → cap' = 0) → wpList Tryd.prog ops Q rest (a.put o.dst (.slice ao' l.length cap')) w') :
    wpList Tryd.prog ops Q (o :: rest) a w := by
  obtain ⟨i0, hi0, hz0, hz1, hz2⟩ := info_parts info_Shot
  have hown : w.ownsRow w.heap.size 66 6 (.slice none 0 0) 0 [] := World.ownsRow_nil _ _ _ _
  by_cases h0 : l.length = 0
  · have e := List.eq_nil_of_length_eq_zero h0
    subst e
    cases ao with
    | none =>
      obtain rfl := hn rfl
      exact wpList_append_own_none hgd s x 26 ho w.heap.size 66 i0 6 Tryd.underlying26 hi0 (.slice none 0 0) 0 [] hs hown hx (h none 0 w hown (grown_refl _ _) (fun _ => rfl))
    | some ad =>
      refine wpList_append_own w hgd s x 26 ho w.heap.size 66 i0 (.agg #[.int .i32 0, .int .i32 0, .int .i32 0, .int .i32 0, .int .u8 0, .int .u8 0]) 6 20 Tryd.underlying26 hi0 hz0 hz1 hz2 rfl (by decide) (.slice none 0 0) 0 [] hs hown ad 0 cap [] hx rfl (by simp) (by simp) (by simp [maxLen]) (by omega) (Nat.le_refl _) ?_
      intro v' w1 hown1 hgr hnil
      obtain rfl := hnil.2 ⟨rfl, rfl⟩
      exact h none 0 w1 hown1 hgr (fun _ => rfl)
  · obtain ⟨_, b, o', rfl, _⟩ := hsh 0 (by omega)
    refine wpList_append_lies w hgd s x 26 ho w.heap.size 66 i0 (.agg #[.int .i32 0, .int .i32 0, .int .i32 0, .int .i32 0, .int .u8 0, .int .u8 0]) 6 20 Tryd.underlying26 hi0 hz0 hz1 hz2 rfl (by decide) (.slice none 0 0) 0 [] hs hown ⟨b, o', none⟩ l.length cap (Hall l) hx (Hall_len l) (shs_news hsh) (Hall_one l) (by omega) (by simp only [maxLen]; omega) (by omega) (Nat.le_refl _) _ rfl ?_
    intro g' cap' w1 hown1 hgr hat hlt1
    rw [Nat.zero_add, List.nil_append] at hown1
    rw [Nat.zero_add]
    exact h _ cap' w1 hown1 hgr (fun e => by cases e)
/-- What a copy is: the same state, its shots in memory of its own. -/
def CpPost (s : St) (w : World) (E : Ending) (w' : World) : Prop :=
  ∃ ao cap, E = .returned (sv s ao cap) ∧ w'.ownsRow w.heap.size 66 6 (.slice ao s.ss.length cap) s.ss.length (Hall s.ss) ∧ (ao = none → cap = 0) ∧ w.grownBy w' none
attribute [local go_sem ↓] loadAt_state storeAt_state
attribute [local go_sem] run_loadState rowOf_new rowOf_old rowOf_drew rowOf_drewN run_storeOk okRow_new okRow_old Value.oneCell' rowOf_own
theorem rowOf_old2 (w : World) (g : Nat) (A B : Obj) (h : g < w.heap.size) : rowOf ((w.alloc A).alloc B) g = rowOf w g := by
  rw [rowOf_old _ _ _ (by simp; omega), rowOf_old _ _ _ h]
theorem kept_cellB {w : World} {B n g i : Nat} {e : TypeId} {size : Nat} {v u : Value} {xs : List Value} (h : w.ownsRow B e size v n xs) (hg : g < B) : (w.setCell ⟨g, i, none⟩ u).ownsRow B e size v n xs := kept_row h (grown_set w g i u) hg
set_option maxHeartbeats 2000000 in
set_option maxRecDepth 20000 in
theorem copy_c (s : St) (ao : Option Addr) (cap : Nat) (w : World) (h : Shs w ao s.ss) (hn : ao = none → cap = 0) (hl : s.ss.length ≤ 1000000) :
    Calls Tryd.prog 26 #[sv s ao cap] w (CpPost s w) := by
  have hg : w.grownBy ((w.alloc (.cells (stc s ao cap) 30)).alloc (.cells #[.int .u64 0, .int .u64 0, .int .i32 0, .int .i32 0, .int .i32 0, .int .i32 0, .int .u8 0, .int .u8 0, .int .u8 0, .int .i32 0, .int .i32 0, .int .i32 0, .int .i32 0, .int .u8 0, .int .u8 0, .int .u8 0, .slice none 0 0, .int .u16 0, .int .u16 0] 30)) none := (grown_alloc _ _).trans (grown_alloc _ _)
  have HS := Lib.hid (Shs_grown h hg (by simp))
  have HB1 : Hid (Bk ((w.alloc (.cells (stc s ao cap) 30)).alloc (.cells #[.int .u64 0, .int .u64 0, .int .i32 0, .int .i32 0, .int .i32 0, .int .i32 0, .int .u8 0, .int .u8 0, .int .u8 0, .int .i32 0, .int .i32 0, .int .i32 0, .int .i32 0, .int .u8 0, .int .u8 0, .int .u8 0, .slice none 0 0, .int .u16 0, .int .u16 0] 30)) w.heap.size s ao cap) := heap_alloc2_old w _ _
  have HB2 : Hid (Bk ((w.alloc (.cells (stc s ao cap) 30)).alloc (.cells #[.int .u64 0, .int .u64 0, .int .i32 0, .int .i32 0, .int .i32 0, .int .i32 0, .int .u8 0, .int .u8 0, .int .u8 0, .int .i32 0, .int .i32 0, .int .i32 0, .int .i32 0, .int .u8 0, .int .u8 0, .int .u8 0, .slice none 0 0, .int .u16 0, .int .u16 0] 30)) (w.heap.size + 1) .zero none 0) := heap_alloc2_new w _ _
  have HG := Lib.hid hg
  have HN := Lib.hid hn
  have hz : ((w.alloc (.cells (stc s ao cap) 30)).alloc (.cells #[.int .u64 0, .int .u64 0, .int .i32 0, .int .i32 0, .int .i32 0, .int .i32 0, .int .u8 0, .int .u8 0, .int .u8 0, .int .i32 0, .int .i32 0, .int .i32 0, .int .i32 0, .int .u8 0, .int .u8 0, .int .u8 0, .slice none 0 0, .int .u16 0, .int .u16 0] 30)).heap.size = w.heap.size + 2 := by simp
  have HZ := Lib.hid hz
  clear hg h hn hz
  obtain ⟨Q, hQ⟩ : ∃ Q, Q = CpPost s w := ⟨_, rfl⟩
  rw [← hQ]
  have HQ : Hid (∀ (E : Ending) (w' : World), CpPost s w E w' → Q E w') := fun E w' x => by rw [hQ]; exact x
  clear hQ
  go_enter Tryd.func26, Tryd.ntmps26
  have c16 := HB1.out.of 16 _ rfl
  go_wp2_with (at_builtin; refine wpList_append_shots rfl _ _ rfl ao cap s.ss (by simp [Act.eval]) (by simp [Act.eval]) HS.out HN.out hl ?_; intro ao' cap' w1 hown hgr hnil; have HO := Lib.hid hown; have HN2 := Lib.hid hnil; have HBa := Lib.hid (bk_grown HB1.out hgr (by simp)); have HBb := Lib.hid (bk_grown HB2.out hgr (by simp)); have HG1 := Lib.hid (HG.out.trans hgr); have hlt : w.heap.size + 2 ≤ w1.heap.size := (by have := hgr.size; rw [HZ.out] at this; exact this); clear hown hnil hgr c16 HB1 HB2 HG HS HN; have c16 := HBa.out.of 16 _ rfl; have f16 := Cells.frozen HBa.out 16; have hr1 : rowOf (w1.setCell ⟨w.heap.size, 16, none⟩ (.slice ao' s.ss.length cap')) w.heap.size = stc s ao' cap' := rowOf_cells (bk_set16 HBa.out s.ss s.ss.length rfl ao' cap'); have hb2 : Bk (w1.setCell ⟨w.heap.size, 16, none⟩ (.slice ao' s.ss.length cap')) (w.heap.size + 1) .zero none 0 := Cells.far HBb.out (by show w.heap.size + 1 ≠ w.heap.size; omega) _; have hok := okRow_bk hb2; have HBz := Lib.hid hb2; clear hb2; have HB3 : Hid (Below w.heap.size w (w1.setCell ⟨w.heap.size, 16, none⟩ (.slice ao' s.ss.length cap'))) := (below_of_grown HG1.out).setCell (Nat.le_refl _) _)
  refine bodyPost_ret (v := sv s ao' cap') ?_ rfl ?_
  · exact ret_state _ 2 _ Tryd.results26 (setRow_heap _ _ _ _ _ _ HBz.out) rfl rfl
  · refine HQ.out _ _ ?_
    exact ⟨ao', cap', rfl, owns_less (kept_row (kept_cellB HO.out (by rw [HZ.out]; omega)) (grown_setRow _ _ _) (by rw [HZ.out]; omega)) (by rw [HZ.out]; omega), HN2.out, grown_of_below (below_setRow HB3.out (by omega) _)⟩
set_option maxHeartbeats 2000000 in
set_option maxRecDepth 20000 in
theorem refCopy_c (s : St) (ao : Option Addr) (cap : Nat) (w : World) (h : Shs w ao s.ss) (hn : ao = none → cap = 0) (hl : s.ss.length ≤ 1000000) :
    Calls Tryd.prog 9 #[sv s ao cap] w (CpPost s w) := by
  have hr0 : ∀ A : Obj, rowOf ((w.alloc (.cells (stc s ao cap) 30)).alloc A) w.heap.size = stc s ao cap := fun A => rowOf_cells ((Cells.made w _ _).alloc A)
  have HN := Lib.hid hn
  have HS := Lib.hid h
  clear hn h
  obtain ⟨Q, hQ⟩ : ∃ Q, Q = CpPost s w := ⟨_, rfl⟩
  rw [← hQ]
  have HQ : Hid (∀ (E : Ending) (w' : World), CpPost s w E w' → Q E w') := fun E w' x => by rw [hQ]; exact x
  clear hQ
  go_enter Tryd.func9, Tryd.ntmps9
  go_upto_region 2 with fail
  have HB1 : Hid (Bk ((((w.alloc (.cells (stc s ao cap) 30)).alloc (.cells #[.int .u64 0, .int .u64 0, .int .i32 0, .int .i32 0, .int .i32 0, .int .i32 0, .int .u8 0, .int .u8 0, .int .u8 0, .int .i32 0, .int .i32 0, .int .i32 0, .int .i32 0, .int .u8 0, .int .u8 0, .int .u8 0, .slice none 0 0, .int .u16 0, .int .u16 0] 30)).alloc (.cells #[.int .u64 0, .int .u64 0, .int .i32 0, .int .i32 0, .int .i32 0, .int .i32 0, .int .u8 0, .int .u8 0, .int .u8 0, .int .i32 0, .int .i32 0, .int .i32 0, .int .i32 0, .int .u8 0, .int .u8 0, .int .u8 0, .slice none 0 0, .int .u16 0, .int .u16 0] 30)).setRow (w.heap.size + 1 + 1) (stc s ao cap)) w.heap.size s ao cap) := cells_far (((Cells.made w _ _).alloc _).alloc _) (by omega) _
  have HB2 : Hid (Bk ((((w.alloc (.cells (stc s ao cap) 30)).alloc (.cells #[.int .u64 0, .int .u64 0, .int .i32 0, .int .i32 0, .int .i32 0, .int .i32 0, .int .u8 0, .int .u8 0, .int .u8 0, .int .i32 0, .int .i32 0, .int .i32 0, .int .i32 0, .int .u8 0, .int .u8 0, .int .u8 0, .slice none 0 0, .int .u16 0, .int .u16 0] 30)).alloc (.cells #[.int .u64 0, .int .u64 0, .int .i32 0, .int .i32 0, .int .i32 0, .int .i32 0, .int .u8 0, .int .u8 0, .int .u8 0, .int .i32 0, .int .i32 0, .int .i32 0, .int .i32 0, .int .u8 0, .int .u8 0, .int .u8 0, .slice none 0 0, .int .u16 0, .int .u16 0] 30)).setRow (w.heap.size + 1 + 1) (stc s ao cap)) (w.heap.size + 1) .zero none 0) := cells_far (Cells.alloc (heap_alloc2_new w _ _) _) (by omega) _
  have HB3 : Hid (Bk ((((w.alloc (.cells (stc s ao cap) 30)).alloc (.cells #[.int .u64 0, .int .u64 0, .int .i32 0, .int .i32 0, .int .i32 0, .int .i32 0, .int .u8 0, .int .u8 0, .int .u8 0, .int .i32 0, .int .i32 0, .int .i32 0, .int .i32 0, .int .u8 0, .int .u8 0, .int .u8 0, .slice none 0 0, .int .u16 0, .int .u16 0] 30)).alloc (.cells #[.int .u64 0, .int .u64 0, .int .i32 0, .int .i32 0, .int .i32 0, .int .i32 0, .int .u8 0, .int .u8 0, .int .u8 0, .int .i32 0, .int .i32 0, .int .i32 0, .int .i32 0, .int .u8 0, .int .u8 0, .int .u8 0, .slice none 0 0, .int .u16 0, .int .u16 0] 30)).setRow (w.heap.size + 1 + 1) (stc s ao cap)) (w.heap.size + 1 + 1) s ao cap) := by
    have := Cells.made ((w.alloc (.cells (stc s ao cap) 30)).alloc (.cells #[.int .u64 0, .int .u64 0, .int .i32 0, .int .i32 0, .int .i32 0, .int .i32 0, .int .u8 0, .int .u8 0, .int .u8 0, .int .i32 0, .int .i32 0, .int .i32 0, .int .i32 0, .int .u8 0, .int .u8 0, .int .u8 0, .slice none 0 0, .int .u16 0, .int .u16 0] 30)) 30 #[.int .u64 0, .int .u64 0, .int .i32 0, .int .i32 0, .int .i32 0, .int .i32 0, .int .u8 0, .int .u8 0, .int .u8 0, .int .i32 0, .int .i32 0, .int .i32 0, .int .i32 0, .int .u8 0, .int .u8 0, .int .u8 0, .slice none 0 0, .int .u16 0, .int .u16 0]
    rw [show ((w.alloc (.cells (stc s ao cap) 30)).alloc (.cells #[.int .u64 0, .int .u64 0, .int .i32 0, .int .i32 0, .int .i32 0, .int .i32 0, .int .u8 0, .int .u8 0, .int .u8 0, .int .i32 0, .int .i32 0, .int .i32 0, .int .i32 0, .int .u8 0, .int .u8 0, .int .u8 0, .slice none 0 0, .int .u16 0, .int .u16 0] 30)).heap.size = w.heap.size + 1 + 1 by simp] at this
    exact bk_setRow this s ao cap
  have HBW : Hid (Below w.heap.size w ((((w.alloc (.cells (stc s ao cap) 30)).alloc (.cells #[.int .u64 0, .int .u64 0, .int .i32 0, .int .i32 0, .int .i32 0, .int .i32 0, .int .u8 0, .int .u8 0, .int .u8 0, .int .i32 0, .int .i32 0, .int .i32 0, .int .i32 0, .int .u8 0, .int .u8 0, .int .u8 0, .slice none 0 0, .int .u16 0, .int .u16 0] 30)).alloc (.cells #[.int .u64 0, .int .u64 0, .int .i32 0, .int .i32 0, .int .i32 0, .int .i32 0, .int .u8 0, .int .u8 0, .int .u8 0, .int .i32 0, .int .i32 0, .int .i32 0, .int .i32 0, .int .u8 0, .int .u8 0, .int .u8 0, .slice none 0 0, .int .u16 0, .int .u16 0] 30)).setRow (w.heap.size + 1 + 1) (stc s ao cap))) := below_setRow ((((Below.refl _ w).alloc (Nat.le_refl _) _).alloc (by simp) _).alloc (by simp; omega) _) (by omega) _
  generalize ((((w.alloc (.cells (stc s ao cap) 30)).alloc (.cells #[.int .u64 0, .int .u64 0, .int .i32 0, .int .i32 0, .int .i32 0, .int .i32 0, .int .u8 0, .int .u8 0, .int .u8 0, .int .i32 0, .int .i32 0, .int .i32 0, .int .i32 0, .int .u8 0, .int .u8 0, .int .u8 0, .slice none 0 0, .int .u16 0, .int .u16 0] 30)).alloc (.cells #[.int .u64 0, .int .u64 0, .int .i32 0, .int .i32 0, .int .i32 0, .int .i32 0, .int .u8 0, .int .u8 0, .int .u8 0, .int .i32 0, .int .i32 0, .int .i32 0, .int .i32 0, .int .u8 0, .int .u8 0, .int .u8 0, .slice none 0 0, .int .u16 0, .int .u16 0] 30)).setRow (w.heap.size + 1 + 1) (stc s ao cap)) = wa at *
  clear hr0
  have e16 := HB3.out.of 16 _ rfl
  have f16 := Cells.frozen HB3.out 16
  have hlt := Cells.lt HB3.out
  go_upto_region 3 with fail
  have HC1 : Hid (Bk (wa.setCell ⟨w.heap.size + 1 + 1, 16, none⟩ (.slice none 0 0)) w.heap.size s ao cap) := Cells.far HB1.out (by show w.heap.size ≠ w.heap.size + 1 + 1; omega) _
  have HC2 : Hid (Bk (wa.setCell ⟨w.heap.size + 1 + 1, 16, none⟩ (.slice none 0 0)) (w.heap.size + 1) .zero none 0) := Cells.far HB2.out (by show w.heap.size + 1 ≠ w.heap.size + 1 + 1; omega) _
  have HC3 : Hid (Bk (wa.setCell ⟨w.heap.size + 1 + 1, 16, none⟩ (.slice none 0 0)) (w.heap.size + 1 + 1) { s with ss := [] } none 0) := bk_set16 HB3.out [] 0 rfl none 0
  have HCW : Hid (Below w.heap.size w (wa.setCell ⟨w.heap.size + 1 + 1, 16, none⟩ (.slice none 0 0))) := HBW.out.setCell (by show w.heap.size ≤ w.heap.size + 1 + 1; omega) _
  clear e16 f16 hlt HB1 HB2 HB3 HBW
  generalize wa.setCell ⟨w.heap.size + 1 + 1, 16, none⟩ (.slice none 0 0) = wb at *
  have e16 := HC3.out.of 16 _ rfl
  have c16 := HC1.out.of 16 _ rfl
  have HSb : Hid (Shs wb ao s.ss) := Shs_grown HS.out (grown_of_below (r := none) HCW.out) (by simp)
  have hlt3 := Cells.lt HC3.out
  go_wp2_with (at_builtin; refine wpList_append_shots rfl _ _ rfl ao cap s.ss (by simp [Act.eval]) (by simp [Act.eval]) HSb.out HN.out hl ?_; intro ao' cap' w1 hown hgr hnil; have HO := Lib.hid hown; have HN2 := Lib.hid hnil; have HD2 := Lib.hid (bk_grown HC2.out hgr (by simp)); have HD3 := Lib.hid (bk_grown HC3.out hgr (by simp)); have HDW := Lib.hid (HCW.out.trans ((below_of_grown hgr).mono (by omega))); clear hown hnil hgr c16 e16 HC1 HC2 HC3 HCW HSb; have e16 := HD3.out.of 16 _ rfl; have f16 := Cells.frozen HD3.out 16; have hr1 : rowOf (w1.setCell ⟨w.heap.size + 1 + 1, 16, none⟩ (.slice ao' s.ss.length cap')) (w.heap.size + 1 + 1) = stc s ao' cap' := rowOf_cells (bk_set16 HD3.out s.ss s.ss.length rfl ao' cap'); have hb2 : Bk (w1.setCell ⟨w.heap.size + 1 + 1, 16, none⟩ (.slice ao' s.ss.length cap')) (w.heap.size + 1) .zero none 0 := Cells.far HD2.out (by show w.heap.size + 1 ≠ w.heap.size + 1 + 1; omega) _; have hok := okRow_bk hb2; have HBz := Lib.hid hb2; clear hb2; have HB3 : Hid (Below w.heap.size w (w1.setCell ⟨w.heap.size + 1 + 1, 16, none⟩ (.slice ao' s.ss.length cap'))) := HDW.out.setCell (by show w.heap.size ≤ w.heap.size + 1 + 1; omega) _)
  refine bodyPost_ret (v := sv s ao' cap') ?_ rfl ?_
  · exact ret_state _ 2 _ Tryd.results9 (setRow_heap _ _ _ _ _ _ HBz.out) rfl rfl
  · refine HQ.out _ _ ?_
    exact ⟨ao', cap', rfl, owns_less (kept_row (kept_cellB HO.out (by omega)) (grown_setRow _ _ _) (by omega)) (by omega), HN2.out, grown_of_below (below_setRow HB3.out (by omega) _)⟩
end Go.Proofs.YtgmbdadkahcpcaaDoor
/- The document's Same: its contract. -/
namespace Go.Proofs.YtgmbdadkahcpcaaDoor
open Go.RowKit
set_option linter.unusedVariables false

attribute [local go_sem ↓] loadAt_state storeAt_state
attribute [local go_sem] run_loadState rowOf_new rowOf_old rowOf_drew rowOf_drewN run_storeOk okRow_new okRow_old Value.oneCell' rowOf_own
theorem sh_neq2 (a b : Sh) (w : World) : (binOp .neq 66 (.agg #[.int .i32 a.x, .int .i32 a.y, .int .i32 a.vx, .int .i32 a.vy, .int .u8 (a.o : Int), .int .u8 (a.l : Int)]) (.agg #[.int .i32 b.x, .int .i32 b.y, .int .i32 b.vx, .int .i32 b.vy, .int .u8 (b.o : Int), .int .u8 (b.l : Int)])).run Tryd.prog w = .ok (.bool (!decide (a = b))) w := sh_neq a b w
theorem pl_neq (a b : Pl) (w : World) : (binOp .neq 24 (.agg #[.int .i32 a.x, .int .i32 a.y, .int .i32 a.vx, .int .i32 a.vy, .int .u8 (a.h : Int), .int .u8 (a.c : Int), .int .u8 (a.f : Int)]) (.agg #[.int .i32 b.x, .int .i32 b.y, .int .i32 b.vx, .int .i32 b.vy, .int .u8 (b.h : Int), .int .u8 (b.c : Int), .int .u8 (b.f : Int)])).run Tryd.prog w = .ok (.bool (!decide (a = b))) w := by
  rw [run_neq_struct, pl_in 9998 a b w]
  rfl
theorem sc_neq (a b c d : Int) (w : World) : (binOp .neq 28 (.agg #[.int .u16 a, .int .u16 b]) (.agg #[.int .u16 c, .int .u16 d])).run Tryd.prog w = .ok (.bool (!((a == c) && (b == d)))) w := by
  have h := sc_eql a b c d w
  rw [run_eql_struct] at h
  rw [run_neq_struct]
  cases hq : ((Op.equalIn 10000 28 (.agg #[.int .u16 a, .int .u16 b]) (.agg #[.int .u16 c, .int .u16 d])).run Tryd.prog w) <;> simp_all
section
attribute [local go_sem ↓] loadAt_pair sh_neq2 pl_neq sc_neq
set_option maxHeartbeats 2000000 in
set_option maxRecDepth 20000 in
theorem refSame_c (a b : St) (ao bo : Option Addr) (c1 c2 : Nat) (w : World) (h1 : Shs w ao a.ss) (h2 : Shs w bo b.ss) (hl : a.ss.length ≤ maxLen) (hm : b.ss.length ≤ maxLen) :
    Calls Tryd.prog 10 #[sv a ao c1, sv b bo c2] w fun E w' => E = .returned (.bool (same a b)) ∧ w.grownBy w' none := by
  have hg : w.grownBy ((w.alloc (.cells (stc a ao c1) 30)).alloc (.cells (stc b bo c2) 30)) none := (grown_alloc _ _).trans (grown_alloc _ _)
  have HS1 := Lib.hid (Shs_grown h1 hg (by simp))
  have HS2 := Lib.hid (Shs_grown h2 hg (by simp))
  have HBa : Hid (Bk ((w.alloc (.cells (stc a ao c1) 30)).alloc (.cells (stc b bo c2) 30)) w.heap.size a ao c1) := heap_alloc2_old w _ _
  have HBb : Hid (Bk ((w.alloc (.cells (stc a ao c1) 30)).alloc (.cells (stc b bo c2) 30)) (w.heap.size + 1) b bo c2) := heap_alloc2_new w _ _
  have HG := Lib.hid hg
  have hand : same a b = (((a.fr : Int) == (b.fr : Int)) && (((a.sd : Int) == (b.sd : Int)) && (decide (a.p = b.p) && (decide (a.q = b.q) && ((((a.s0 : Int) == (b.s0 : Int)) && ((a.s1 : Int) == (b.s1 : Int))) && decide (a.ss = b.ss)))))) := by
    rw [same_and]
    cases decide (a.ss = b.ss) <;> simp [Bool.and_assoc]
  rw [hand]
  simp only [maxLen] at hl hm
  have HLE : Hid (((a.ss.length : Int) == (b.ss.length : Int)) = false → decide (a.ss = b.ss) = false) := fun e => decide_eq_false (fun x => by rw [x] at e; simp at e)
  have HN : Hid (∀ k (h : k < a.ss.length) (h' : k < b.ss.length), ¬ (a.ss[k]'h) = (b.ss[k]'h') → decide (a.ss = b.ss) = false) := fun k h h' e => decide_eq_false (fun x => e (by revert h h'; rw [x]; intros; rfl))
  have HY : Hid (∀ k, k = a.ss.length → a.ss.length = b.ss.length → a.ss.take k = b.ss.take k → decide (a.ss = b.ss) = true) := fun k e e2 x => decide_eq_true (by subst e; rwa [List.take_length, e2, List.take_length] at x)
  clear hg h1 h2 hand
  generalize decide (a.ss = b.ss) = ans at *
  cases h0 : ((a.fr : Int) == (b.fr : Int))
  · have g0 : ((a.fr : Int) != (b.fr : Int)) = true := by rw [bne, h0]; rfl
    go_enter Tryd.func10, Tryd.ntmps10
    go_wp2
    all_goals (go_ret; exact ⟨rfl, HG.out⟩)
  have g0 : ((a.fr : Int) != (b.fr : Int)) = false := by rw [bne, h0]; rfl
  cases h1 : ((a.sd : Int) == (b.sd : Int))
  · have g1 : ((a.sd : Int) != (b.sd : Int)) = true := by rw [bne, h1]; rfl
    go_enter Tryd.func10, Tryd.ntmps10
    go_wp2
    all_goals (go_ret; exact ⟨rfl, HG.out⟩)
  have g1 : ((a.sd : Int) != (b.sd : Int)) = false := by rw [bne, h1]; rfl
  cases h2 : decide (a.p = b.p)
  · go_enter Tryd.func10, Tryd.ntmps10
    go_wp2
    all_goals (go_ret; exact ⟨rfl, HG.out⟩)
  cases h3 : decide (a.q = b.q)
  · go_enter Tryd.func10, Tryd.ntmps10
    go_wp2
    all_goals (go_ret; exact ⟨rfl, HG.out⟩)
  cases h4 : (((a.s0 : Int) == (b.s0 : Int)) && ((a.s1 : Int) == (b.s1 : Int)))
  · go_enter Tryd.func10, Tryd.ntmps10
    go_wp2
    all_goals (go_ret; exact ⟨rfl, HG.out⟩)
  cases h5 : ((a.ss.length : Int) == (b.ss.length : Int))
  · obtain rfl := HLE.out h5
    have g5 : ((a.ss.length : Int) != (b.ss.length : Int)) = true := by rw [bne, h5]; rfl
    go_enter Tryd.func10, Tryd.ntmps10
    go_wp2
    all_goals (go_ret; exact ⟨rfl, HG.out⟩)
  have g5 : ((a.ss.length : Int) != (b.ss.length : Int)) = false := by rw [bne, h5]; rfl
  have hlen : a.ss.length = b.ss.length := by have := eq_of_beq h5; omega
  have HLEN := Lib.hid hlen
  clear hlen
  go_enter Tryd.func10, Tryd.ntmps10
  go_wp2
  generalize (w.alloc (.cells (stc a ao c1) 30)).alloc (.cells (stc b bo c2) 30) = w0 at *
  clear h0 h1 h2 h3 h4 h5 g0 g1 g5
  go_loopw [5] (fun v wr => ∃ k : Nat, k ≤ a.ss.length ∧ v = .int .i64 k ∧ Hid (a.ss.take k = b.ss.take k) ∧ Hid (w0.grownBy wr none)) (fun v _ => a.ss.length - (intOf v).toNat)
  case atStart => exact ⟨0, by omega, rfl, rfl, grown_refl _ _⟩
  case round =>
    obtain ⟨k, hk, rfl, HE, HW⟩ := hrel
    have c16 := (bk_grown HBa.out HW.out (by simp)).of 16 _ rfl
    have d16 := (bk_grown HBb.out HW.out (by simp)).of 16 _ rfl
    have h1 := Lib.hid (Shs_grown HS1.out HW.out (by simp))
    have h2 := Lib.hid (Shs_grown HS2.out HW.out (by simp))
    by_cases hlt : k < a.ss.length
    · have hlt2 : k < b.ss.length := by rw [← HLEN.out]; exact hlt
      obtain ⟨_, pb, po, rfl, hp⟩ := h1.out k hlt
      obtain ⟨_, qb, qo, rfl, hq⟩ := h2.out k hlt2
      have p0 : wr.cell? ⟨pb, po + k * 6, none⟩ = some (.int .i32 (a.ss[k]'hlt).x) := (hp 0 _ rfl)
      have p1 : wr.cell? ⟨pb, po + k * 6 + 1, none⟩ = some (.int .i32 (a.ss[k]'hlt).y) := (hp 1 _ rfl)
      have p2 : wr.cell? ⟨pb, po + k * 6 + 2, none⟩ = some (.int .i32 (a.ss[k]'hlt).vx) := (hp 2 _ rfl)
      have p3 : wr.cell? ⟨pb, po + k * 6 + 3, none⟩ = some (.int .i32 (a.ss[k]'hlt).vy) := (hp 3 _ rfl)
      have p4 : wr.cell? ⟨pb, po + k * 6 + 4, none⟩ = some (.int .u8 ((a.ss[k]'hlt).o : Int)) := (hp 4 _ rfl)
      have p5 : wr.cell? ⟨pb, po + k * 6 + 5, none⟩ = some (.int .u8 ((a.ss[k]'hlt).l : Int)) := (hp 5 _ rfl)
      have q0 : wr.cell? ⟨qb, qo + k * 6, none⟩ = some (.int .i32 (b.ss[k]'hlt2).x) := (hq 0 _ rfl)
      have q1 : wr.cell? ⟨qb, qo + k * 6 + 1, none⟩ = some (.int .i32 (b.ss[k]'hlt2).y) := (hq 1 _ rfl)
      have q2 : wr.cell? ⟨qb, qo + k * 6 + 2, none⟩ = some (.int .i32 (b.ss[k]'hlt2).vx) := (hq 2 _ rfl)
      have q3 : wr.cell? ⟨qb, qo + k * 6 + 3, none⟩ = some (.int .i32 (b.ss[k]'hlt2).vy) := (hq 3 _ rfl)
      have q4 : wr.cell? ⟨qb, qo + k * 6 + 4, none⟩ = some (.int .u8 ((b.ss[k]'hlt2).o : Int)) := (hq 4 _ rfl)
      have q5 : wr.cell? ⟨qb, qo + k * 6 + 5, none⟩ = some (.int .u8 ((b.ss[k]'hlt2).l : Int)) := (hq 5 _ rfl)
      have HN2 := Lib.hid (HN.out k hlt hlt2)
      have HS : Hid ((a.ss[k]'hlt) = (b.ss[k]'hlt2) → a.ss.take (k + 1) = b.ss.take (k + 1)) := fun e => by
        rw [List.take_succ_eq_append_getElem hlt, List.take_succ_eq_append_getElem hlt2, HE.out, e]
      clear hp hq HE
      generalize (a.ss[k]'hlt) = x at *
      generalize (b.ss[k]'hlt2) = y at *
      have hki : (k : Int) < (a.ss.length : Int) := by omega
      have hki2 : (k : Int) < (b.ss.length : Int) := by omega
      by_cases hxy : x = y
      · have HX := Lib.hid (HS.out hxy)
        have hd : decide (x = y) = true := decide_eq_true hxy
        clear HS HN2 h1 h2
        go_wp2_with fail
        go_quiet (fail)
        go_wp2
        go_roundw
        case rel => exact ⟨k + 1, by omega, by go_num, HX, HW.out.trans (grown_drewN _ _ _)⟩
        case measure => simp [intOf]; omega
      · obtain rfl := HN2.out hxy
        have hd : decide (x = y) = false := decide_eq_false hxy
        clear HS HN2 h1 h2
        go_wp2_with fail
        go_quiet (fail)
        go_wp2
        go_ret
        exact ⟨rfl, (HG.out.trans HW.out).trans (grown_drewN _ _ _)⟩
    · obtain rfl := HY.out k (by omega) HLEN.out HE.out
      go_wp2
      go_ret
      exact ⟨rfl, HG.out.trans HW.out⟩
end
end Go.Proofs.YtgmbdadkahcpcaaDoor
/- The statement StateSame: which states are the same is as the document says; a copy is, in memory of its own: the Go function returns true. Conditions: the table of bounds lies in its variable. -/
namespace Go.Proofs.YtgmbdadkahcpcaaDoor
open Go.RowKit
set_option linter.unusedVariables false

/-- A shot laid into a block. -/
def storeSh (p v : Value) : Sem Unit := Instr.storeAt 66 p v
theorem storeAt_sh (p v : Value) : Instr.storeAt 66 p v = storeSh p v := rfl
theorem info_ShSz : (Tryd.prog.info? 66).map (·.size) = some 6 := by kernel_rfl
theorem run_storeSh {w : World} {g : Nat} {t : TypeId} {old cs : Array Value} (o : Nat) (h : Cells w g t old) (ho : o + 6 ≤ old.size) (hc : cs.size = 6) (h1 : cs.toList.all Value.oneCell' = true) :
    (storeSh (.pointer (some ⟨g, o, none⟩)) (.agg cs)).run Tryd.prog w = .ok () (w.setRow g (old.toList.take o ++ cs.toList ++ old.toList.drop (o + 6)).toArray) := by
  have hst := run_storeCells_at Tryd.prog g o t cs.toList 0 old w h (by simp [hc]; omega) (fun v hv => List.all_eq_true.1 h1 v hv)
  rw [Nat.add_zero, show cs.toList.length = 6 from by simpa using hc] at hst
  cases hq : Tryd.prog.info? 66 with
  | none => have := info_ShSz; rw [hq] at this; simp at this
  | some i =>
    have hi : i.size = 6 := by have := info_ShSz; rw [hq] at this; simpa using this
    simp [storeSh, Instr.storeAt, Instr.sureAddr, storeVar, sizeOf, typeInfo, hq, hi, Value.cells, hc, hst]
theorem refSame_self (a : St) (ao bo : Option Addr) (c1 c2 : Nat) (w : World) (h1 : Shs w ao a.ss) (h2 : Shs w bo a.ss) (hl : a.ss.length ≤ maxLen) :
    Calls Tryd.prog 10 #[sv a ao c1, sv a bo c2] w fun E w' => E = .returned (.bool true) ∧ w.grownBy w' none :=
  (refSame_c a a ao bo c1 c2 w h1 h2 hl hl).mono fun E w' ⟨e, h⟩ => ⟨by rw [e]; simp [same], h⟩
/-- The lives that are still to be written over stand as they were. -/
def Lives (w : World) (ao : Option Addr) (cap : Nat) (l : List Sh) (k : Nat) : Prop :=
  ∀ g, ao = some ⟨g, 0, none⟩ → ∃ cur : Array Value, Cells w g 66 cur ∧ cur.size = cap * 6 ∧ l.length ≤ cap ∧ ∀ j (h : j < l.length), k ≤ j → cur[j * 6 + 5]? = some (.int .u8 ((l[j]'h).l : Int))
theorem lives_own {w : World} {B : Nat} {ao : Option Addr} {cap : Nat} {l : List Sh} (h : w.ownsRow B 66 6 (.slice ao l.length cap) l.length (Hall l)) : Lives w ao cap l 0 := fun g eg => by
  subst eg
  rcases h.2 with ⟨e, _⟩ | ⟨g', cap', cur, e, _, hc, hle, _, hsz, htk⟩
  · cases e
  · injection e with e1 e2 e3
    subst e3
    obtain rfl : g = g' := by injection e1 with e1; injection e1
    refine ⟨cur, hc, hsz, hle, fun j hj _ => ?_⟩
    have h5 : (Hall l)[j * 6 + 5]? = some (.int .u8 ((l[j]'hj).l : Int)) := hall_at l j hj 5 _ rfl
    rw [← htk, List.getElem?_take, if_pos (by omega)] at h5
    rwa [Array.getElem?_toList] at h5
theorem own_shape {w : World} {B : Nat} {ao : Option Addr} {cap n : Nat} {xs : List Value} (h : w.ownsRow B 66 6 (.slice ao n cap) n xs) : n = 0 ∨ ∃ g, ao = some ⟨g, 0, none⟩ := by
  rcases h.2 with ⟨_, e⟩ | ⟨g', cap', cur, e, _⟩
  · exact .inl e
  · injection e with e1 e2 e3
    exact .inr ⟨g', e1⟩
theorem lives_kept {w w' : World} {ao : Option Addr} {cap : Nat} {l : List Sh} {k : Nat} (h : Lives w ao cap l k) (hw : ∀ g, ao = some ⟨g, 0, none⟩ → w'.heap[g]? = w.heap[g]?) : Lives w' ao cap l k := fun g eg => by
  obtain ⟨cur, hc, r⟩ := h g eg
  exact ⟨cur, (hw g eg).trans hc, r⟩
attribute [local go_sem ↓] loadAt_state storeAt_state storeAt_sh
attribute [local go_sem] run_loadState rowOf_new rowOf_old rowOf_drew rowOf_drewN run_storeOk okRow_new okRow_old Value.oneCell' rowOf_own
end Go.Proofs.YtgmbdadkahcpcaaDoor
/- A player laid into a block: one step of the walk. -/
namespace Go.Proofs.YtgmbdadkahcpcaaDoor
open Go.RowKit
set_option linter.unusedVariables false

/-- A player laid into a block. -/
def storePl (p v : Value) : Sem Unit := Instr.storeAt 24 p v
theorem storeAt_pl (p v : Value) : Instr.storeAt 24 p v = storePl p v := rfl
theorem run_storePl {w : World} {g : Nat} {t : TypeId} {old cs : Array Value} (o : Nat) (h : Cells w g t old) (ho : o + 7 ≤ old.size) (hc : cs.size = 7) (h1 : cs.toList.all Value.oneCell' = true) :
    (storePl (.pointer (some ⟨g, o, none⟩)) (.agg cs)).run Tryd.prog w = .ok () (w.setRow g (old.toList.take o ++ cs.toList ++ old.toList.drop (o + 7)).toArray) := by
  have hst := run_storeCells_at Tryd.prog g o t cs.toList 0 old w h (by simp [hc]; omega) (fun v hv => List.all_eq_true.1 h1 v hv)
  rw [Nat.add_zero, show cs.toList.length = 7 from by simpa using hc] at hst
  cases hq : Tryd.prog.info? 24 with
  | none => have := info_PlSz; rw [hq] at this; simp at this
  | some i =>
    have hi : i.size = 7 := by have := info_PlSz; rw [hq] at this; simpa using this
    simp [storePl, Instr.storeAt, Instr.sureAddr, storeVar, sizeOf, typeInfo, hq, hi, Value.cells, hc, hst]
theorem alloc_setRow (w : World) (z cs : Array Value) (t : TypeId) : (w.alloc (.cells z t)).setRow w.heap.size cs = w.alloc (.cells cs t) := by
  unfold World.setRow World.alloc
  cases w with
  | mk heap tape drawn os output =>
    congr 1
    apply Array.ext
    · simp
    · intro k h1 h2
      simp only [Array.getElem_modify, Array.getElem_push]
      split
      · rename_i hk; subst hk; simp
      · rename_i hk
        have : k < heap.size := by simp at h2; omega
        simp [this]
theorem run_storePlNew (w : World) (t : TypeId) (z cs : Array Value) (g : Nat) (hg : g = w.heap.size) (hz : z.size = 7) (hc : cs.size = 7) (h1 : cs.toList.all Value.oneCell' = true) :
    (storePl (.pointer (some ⟨g, 0, none⟩)) (.agg cs)).run Tryd.prog (w.alloc (.cells z t)) = .ok () (w.alloc (.cells cs t)) := by
  subst hg
  rw [run_storePl 0 (Cells.made w t z) (by omega) hc h1]
  have e : (z.toList.take 0 ++ cs.toList ++ z.toList.drop (0 + 7)).toArray = cs := by
    rw [List.drop_of_length_le (by simp; omega)]; simp
  rw [e]
  rw [alloc_setRow w z cs t]
end Go.Proofs.YtgmbdadkahcpcaaDoor
