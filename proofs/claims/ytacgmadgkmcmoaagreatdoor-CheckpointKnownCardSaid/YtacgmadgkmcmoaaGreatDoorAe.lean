/- Texts of elder layers, one behind the other. -/
import Derived.Test.YtacgmadgkmcmoaaGreatDoorAd
import Derived.Deep.DeepCutAuto
import Derived.Deep.RegionHeld3
import Derived.Deep.OwnRows
import Derived.Laws.CopyRow
import Derived.Laws.CopyOwn
import Derived.Shelf.Spec.SlicesInsert
import Derived.Deep.RegionLaw
import Derived.Laws.StructEq
import Derived.ChangeKeysEq
import Derived.Deep.Slices
import Derived.Deep.Strs
import Derived.Lib.SmallJoins
import Derived.OpenShut
import Derived.Laws.AppendOwnNone
/- The document's Check, and what its Put leans on: contracts; words for drawn regions whose calls make memory. -/
namespace Go.Proofs.YtacgmadgkmcmoaaGreatDoor
open Go.RowKit
set_option linter.unusedVariables false

/-! What is below block B stays as it was in the world wd. -/
def On (B : Nat) (wd w' : World) : Prop := Below B wd w'
section
variable {B : Nat} {w wd w1 w2 w' : World} {g : Nat} {t : TypeId} {cs : Array Value}
theorem On.refl (B : Nat) (w : World) : On B w w := Below.refl _ _
theorem On.drew (B : Nat) (w : World) : On B w w.drew := (Below.refl _ w).drew
theorem on_step (h : On wd.heap.size wd w1) (hb : w1.grownBy w2 none) : On wd.heap.size wd w2 := Below.trans h ((below_of_grown hb).mono h.size)
theorem on_alloc {o : Obj} (h : On wd.heap.size wd w1) : On wd.heap.size wd (w1.alloc o) := on_step h (grown_alloc _ _)
theorem on_drewB (h : On B w w') : On B w w'.drew := Below.drew h
theorem on_size (h : On B w w') : w.heap.size ≤ w'.heap.size := Below.size h
theorem on_cell (h : Cells wd g t cs) (hg : g < B) (i : Nat) {v : Value} (hv : cs[i]? = some v) : ∀ w', On B wd w' → w'.cell? ⟨g, i, none⟩ = some v := fun _ o => by rw [(h.below o hg).cell, hv]
theorem on_grown (o : On wd.heap.size wd w') : wd.grownBy w' none := grown_of_below o
theorem keep_row (h : w1.grownBy w2 none) : ∀ g, g < w1.heap.size → rowOf w2 g = rowOf w1 g := fun g hg => by
  unfold rowOf; rw [h.block g hg (by simp)]
theorem keep_lt (h : w1.grownBy w2 none) : ∀ n, n < w1.heap.size → n < w2.heap.size := fun n hn => Nat.lt_of_lt_of_le hn h.size
theorem drew_size (w : World) : w.drew.heap.size = w.heap.size := rfl
theorem alloc_size (w : World) (o : Obj) : (w.alloc o).heap.size = w.heap.size + 1 := by simp
end
/-! A row of bytes turned into a string. -/
def byteV : Value → Nat
  | .int _ z => z.toNat
  | _ => 0
def strOf (cs : Array Value) : ByteArray := str (cs.toList.map fun v => UInt8.ofNat (byteV v))
def allU8 : List Value → Bool
  | [] => true
  | .int .u8 z :: r => decide (0 ≤ z ∧ z < 256) && allU8 r
  | _ => false
theorem allU8_map : ∀ (l : List Value), allU8 l = true → l = bvs (l.map fun v => UInt8.ofNat (byteV v))
  | [], _ => rfl
  | .int .u8 z :: r, h => by
    simp only [allU8, Bool.and_eq_true, decide_eq_true_eq] at h
    have e := allU8_map r h.2
    show Value.int .u8 z :: r = bv (UInt8.ofNat z.toNat) :: bvs (r.map fun v => UInt8.ofNat (byteV v))
    rw [← e]
    have e2 : bv (UInt8.ofNat z.toNat) = .int .u8 z := by
      unfold bv
      rw [show ((UInt8.ofNat z.toNat).toNat : Int) = z by simp; omega]
    rw [e2]
set_option maxRecDepth 100000 in
theorem run_conv (w : World) (g n : Nat) (hn : (rowOf w g).size = n) (h0 : 0 < n) (ha : allU8 (rowOf w g).toList = true) :
    (convert 71 9 (.slice (some ⟨g, 0, none⟩) n n)).run Tryz.prog w = .ok (.string (strOf (rowOf w g))) w := by
  obtain ⟨cs, t, fr, hg⟩ := rowOf_shape hn h0
  have e : rowOf w g = cs := by unfold rowOf; rw [hg]
  rw [e] at hn ha ⊢
  have hm := allU8_map _ ha
  unfold strOf
  generalize hb : cs.toList.map (fun v => UInt8.ofNat (byteV v)) = bs at *
  have hl : bs.length = n := by rw [← hb, List.length_map, Array.length_toList, hn]
  rw [← hl]
  refine run_convert_bytes_back w _ _ 5 _ _ bs Tryz.underlying71 Tryz.underlying5 Tryz.underlying9 (fun j hj => ?_)
  have hadd : (⟨g, 0, none⟩ : Addr).add j = ⟨g, j, none⟩ := by unfold Addr.add; split <;> simp_all
  have h2 : cs.toList[j]? = (bvs bs)[j]? := congrArg (fun l : List Value => l[j]?) hm
  have h3 : (bvs bs)[j]? = some (bv (bs[j]'hj)) := by unfold bvs; rw [List.getElem?_map, List.getElem?_eq_getElem hj]; rfl
  rw [hadd, cell_of_row w g j cs t fr hg, ← Array.getElem?_toList, h2, h3]
  rfl
theorem strOf2 (a b : Nat) : strOf #[.int .u8 (a : Int), .int .u8 (b : Int)] = str [UInt8.ofNat a, UInt8.ofNat b] := by simp [strOf, byteV]
theorem strOf3 (a b c : Nat) : strOf #[.int .u8 (a : Int), .int .u8 (b : Int), .int .u8 (c : Int)] = str [UInt8.ofNat a, UInt8.ofNat b, UInt8.ofNat c] := by simp [strOf, byteV]
theorem allU8_cons (a : Nat) (r : List Value) : allU8 (.int .u8 (a : Int) :: r) = (decide (a < 256) && allU8 r) := by
  have e : decide (0 ≤ (a : Int) ∧ (a : Int) < 256) = decide (a < 256) := decide_eq_decide.2 (by omega)
  simp only [allU8, e]
theorem allU8_nil : allU8 [] = true := rfl

/-- A number of 32 bits with a sign, by the document. -/
theorem signed_c (z : Int) (w : World) : Calls Tryz.prog 152 #[.int .i32 z] w fun E w' => E = .returned (.string (str (le 4 (un32 z)))) ∧ w.grownBy w' none := by
  have e1 : IntKind.u64.wrap (IntKind.u32.wrap z) = (un32 z : Int) := by
    unfold un32
    simp [IntKind.wrap, IntKind.bits, IntKind.signed]
    omega
  have e2 : IntKind.u32.wrap z = (un32 z : Int) := by
    unfold un32
    simp [IntKind.wrap, IntKind.bits, IntKind.signed]
    omega
  have hlt := un32_lt z
  generalize un32 z = n at *
  have H := refNumber n 4 w (by omega) (by omega)
  go_enter Tryz.func152, Tryz.ntmps152
  go_wp2_with fail
  refine H.mono ?_
  rintro E w1 ⟨rfl, hb⟩
  go_wp2
  go_ret
  exact ⟨rfl, hb⟩
set_option maxHeartbeats 1000000 in
set_option maxRecDepth 20000 in
theorem refCheck (s : St) (ao : Option Addr) (cap : Nat) (w : World) (h : Shs w ao s.ss) :
    Calls Tryz.prog 105 #[sv s ao cap] w fun E w' => E = .returned (.int .i64 (chk s)) ∧ w.grownBy w' none := by
  by_cases h8 : 8 < s.ss.length
  · rw [chk_few h8]
    go_enter Tryz.func105, Tryz.ntmps105
    go_wp2
    go_ret
    exact ⟨rfl, grown_alloc _ _⟩
  · have hB := bk_made w s ao cap
    have HS := Lib.hid (Shs_grown h (grown_alloc w (.cells (stc s ao cap) 34)) (by simp))
    have HB := Lib.hid hB
    have C0 : Hid (∀ W, Calls Tryz.prog 149 #[pv s.p] W fun E w' => E = .returned (.bool s.p.good) ∧ W.grownBy w' none) := refPlayer s.p
    have C1 : Hid (∀ W, Calls Tryz.prog 149 #[pv s.q] W fun E w' => E = .returned (.bool s.q.good) ∧ W.grownBy w' none) := refPlayer s.q
    have HR : Hid (chk s = if (s.p.good && s.q.good && s.ss.all Sh.good) = true then 0 else 4) := by
      show _ = _
      rw [chk_of (by omega)]; simp
    rw [HR.out]
    have hd8 : decide ((8 : Int) < (s.ss.length : Int)) = false := decide_eq_false (by omega)
    clear hB h HR
    have HA1 : Hid (∀ k (h : k < s.ss.length), (s.ss[k]'h).good = false → s.ss.all Sh.good = false) := fun k h e => all_bad h e
    have HA2 : Hid ((s.ss.take s.ss.length).all Sh.good = true → s.ss.all Sh.good = true) := fun h => by rwa [List.take_length] at h
    generalize s.p.good = b0 at *
    generalize s.q.good = b1 at *
    generalize s.ss.all Sh.good = ba at *
    unfold pv at C0 C1
    go_enter Tryz.func105, Tryz.ntmps105
    go_wp2_with fail
    refine (C0.out _).mono ?_
    rintro E w1 ⟨rfl, hb1⟩
    cases b0
    · go_wp2
      go_ret
      exact ⟨rfl, (grown_alloc _ _).trans hb1⟩
    · obtain ⟨c0, c1, ⟨c2, c3, c4, c5, c6, c7, c8⟩, ⟨c9, c10, c11, c12, c13, c14, c15⟩, c16, c17, c18⟩ := bk_cells (bk_grown HB.out hb1 (by simp))
      have HB1 := Lib.hid hb1
      clear hb1
      go_wp2_with fail
      refine (C1.out _).mono ?_
      rintro E w2 ⟨rfl, hb2⟩
      have HB2 := Lib.hid (HB1.out.trans hb2)
      clear hb2 HB1 c0 c1 c2 c3 c4 c5 c6 c7 c8 c9 c10 c11 c12 c13 c14 c15 c16 c17 c18
      cases b1
      · go_wp2
        go_ret
        exact ⟨rfl, (grown_alloc _ _).trans HB2.out⟩
      · go_upto_region 3 with fail
        go_cut [1, 3] (fun s1 s3 wx => s1 = .pointer (some ⟨w.heap.size, 0, none⟩) ∧ s3 = .int .i64 (0 : Nat) ∧ Hid ((w.alloc (.cells (stc s ao cap) 34)).grownBy wx none))
        case first =>
          go_wp2_with fail
          all_goals go_meet
          all_goals exact ⟨rfl, rfl, HB2⟩
        case rest =>
        obtain ⟨rfl, rfl, HB2⟩ := hcut
        clear C0 C1
        go_wp2
        go_loopw [3] (fun v wr => ∃ k : Nat, k ≤ s.ss.length ∧ v = .int .i64 k ∧ Hid ((s.ss.take k).all Sh.good = true) ∧ Hid ((w.alloc (.cells (stc s ao cap) 34)).grownBy wr none)) (fun v _ => s.ss.length - (intOf v).toNat)
        case atStart => exact ⟨0, by omega, by first | rfl | assumption, by simp [Hid], HB2⟩
        case round =>
          obtain ⟨k, hk, rfl, hg, HW⟩ := hrel
          have c16 := (bk_cells (bk_grown HB.out HW.out (by simp))).2.2.2.2.1
          by_cases hlt : k < s.ss.length
          · obtain ⟨hfx, b, o, rfl, hc⟩ := Shs_grown HS.out HW.out (by simp) k hlt
            clear hfx
            have d0 : wr.cell? ⟨b, o + k * 6, none⟩ = _ := hc 0 _ rfl
            have d1 := hc 1 _ rfl
            have d2 := hc 2 _ rfl
            have d3 := hc 3 _ rfl
            have d4 := hc 4 _ rfl
            have d5 := hc 5 _ rfl
            have HN : Hid (((s.ss[k]'hlt).good = false → ba = false) ∧ ((s.ss[k]'hlt).good = true → (s.ss.take (k + 1)).all Sh.good = true)) := ⟨fun e => HA1.out k hlt e, fun e => all_next hlt hg.out e⟩
            clear hc hg
            generalize hs : (s.ss[k]'hlt) = x at *
            clear hs
            have C2 : Hid (∀ W, Calls Tryz.prog 150 #[hv x] W fun E w' => E = .returned (.bool x.good) ∧ W.grownBy w' none) := refShot x
            unfold hv at C2
            generalize x.good = b2 at *
            go_wp2_with fail
            refine (C2.out _).mono ?_
            rintro E w3 ⟨rfl, hb3⟩
            cases b2
            · obtain rfl := HN.out.1 rfl
              clear d0 d1 d2 d3 d4 d5 c16 HN
              go_wp2
              go_ret
              exact ⟨rfl, ((grown_alloc _ _).trans HW.out).trans hb3⟩
            · have HX := Lib.hid (HN.out.2 rfl)
              clear d0 d1 d2 d3 d4 d5 c16 HN
              go_wp2
              go_roundw
              case rel => exact ⟨k + 1, by omega, by go_num, HX, HW.out.trans hb3⟩
              case measure => simp [intOf]; omega
          · obtain rfl : k = s.ss.length := by omega
            obtain rfl := HA2.out hg.out
            clear hg hk hlt
            go_wp2
            go_ret
            exact ⟨rfl, (grown_alloc _ _).trans HW.out⟩
end Go.Proofs.YtacgmadgkmcmoaaGreatDoor
/- Numbers as a player, as a shot; how package state reads players and shots: one contract each. -/
namespace Go.Proofs.YtacgmadgkmcmoaaGreatDoor
open Go.RowKit
set_option linter.unusedVariables false

theorem info_i32 : (Tryz.prog.info? 21).map (fun i => (i.zero, i.size, i.bytes)) = some (some (.int .i32 0), 1, 4) := by kernel_rfl
theorem num_lt (k : Nat) (l : List UInt8) : (num k l).val < 256 ^ k := by
  unfold num
  split
  · have := un_lt (l.take k)
    rwa [List.length_take, Nat.min_eq_left (by assumption)] at this
  · exact Nat.two_pow_pos 0 |> fun _ => Nat.pow_pos (by decide)
theorem many_lt : ∀ (m i : Nat) (l : List UInt8), okM okN m i (many (fun i => num (wd i)) m i l).val
  | 0, _, _ => rfl
  | m + 1, i, l => ⟨_, _, rfl, num_lt _ _, many_lt m (i + 1) _⟩
/-- The numbers as they stand in the row of 32 bits. -/
def nvI (i n : Nat) : Int := if i < 4 then wrap32 n else (n : Int)
def nvs : Nat → List Nat → List Int
  | _, [] => []
  | i, a :: r => nvI i a :: nvs (i + 1) r
theorem nvs_snoc : ∀ (l : List Nat) (i a : Nat), nvs i (l ++ [a]) = nvs i l ++ [nvI (i + l.length) a]
  | [], i, a => by simp [nvs]
  | x :: l, i, a => by
    simp only [List.cons_append, nvs, nvs_snoc l (i + 1) a, List.length_cons]
    rw [show i + 1 + l.length = i + (l.length + 1) from by omega]
theorem nvs_len : ∀ (l : List Nat) (i : Nat), (nvs i l).length = l.length
  | [], _ => rfl
  | _ :: l, i => by simp [nvs, nvs_len l]
def rowN (m : Nat) (l : List Nat) : Array Value := i32v (nvs 0 l ++ List.replicate (m - l.length) 0)
theorem rowN_nil (m : Nat) : rowN m [] = madeCells #[.int .i32 0] m := by
  apply Array.ext'
  rw [toList_madeCells_one]
  simp [rowN, nvs, i32v]
theorem rowN_set (m : Nat) (l : List Nat) (a : Nat) (h : l.length < m) : (rowN m l).setIfInBounds l.length (.int .i32 (nvI l.length a)) = rowN m (l ++ [a]) := by
  apply Array.ext'
  have e : m - l.length = (m - (l.length + 1)) + 1 := by omega
  simp only [rowN, i32v, nvs_snoc, Nat.zero_add, List.length_append, List.length_cons, List.length_nil]
  rw [e, List.replicate_succ]
  simp [nvs_len]
theorem many_val_len {α : Type} (P : Nat → List UInt8 → Got α) (m i : Nat) (l : List UInt8) : (many P m i l).val.length = m := many_len P m i l
theorem rowN_at (m : Nat) (l : List Nat) (j : Nat) (hl : l.length = j) (h : j < m) : (rowN m l)[j]? = some (.int .i32 0) := by
  rw [rowN, i32v, ← Array.getElem?_toList]
  simp only [List.getElem?_map]
  rw [List.getElem?_append_right (by rw [nvs_len]; omega), nvs_len, hl, Nat.sub_self]
  rw [List.getElem?_replicate, if_pos (by omega)]
  rfl
theorem grown_setNew {w w1 : World} {r : Option Nat} {p : Addr} {u : Value} (h : w.grownBy w1 r) (hp : w.heap.size ≤ p.block) : w.grownBy (w1.setCell p u) r :=
  ⟨h.os, h.tape, h.output, by have := h.size; simp [World.setCell]; exact this, fun i hi hn => (Below.heap_setCell _ _ _ i (by omega)).trans (h.block i hi hn)⟩
theorem grown_row {w w1 w2 : World} {r : Nat} {ob : Option Nat} (h : w.grownBy w1 (some r)) (k : w1.grownBy w2 ob) (hb : ∀ q, ob = some q → w.heap.size ≤ q) : w.grownBy w2 (some r) :=
  ⟨k.os.trans h.os, k.tape.trans h.tape, k.output.trans h.output, Nat.le_trans h.size k.size, fun i hi hn => (k.block i (Nat.lt_of_lt_of_le hi h.size) (fun e => by have := hb i e.symm; omega)).trans (h.block i hi hn)⟩
theorem many_val {α : Type} (P : Nat → List UInt8 → Got α) (m i : Nat) (l : List UInt8) : (many P (m + 1) i l).val = (many P m i l).val ++ [(P (i + m) (many P m i l).rest).val] := by rw [many_snoc]
theorem many_rest {α : Type} (P : Nat → List UInt8 → Got α) (m i : Nat) (l : List UInt8) : (many P (m + 1) i l).rest = (P (i + m) (many P m i l).rest).rest := by rw [many_snoc]
theorem many_err {α : Type} (P : Nat → List UInt8 → Got α) (m i : Nat) (l : List UInt8) : (many P (m + 1) i l).err = fin (many P m i l).err (P (i + m) (many P m i l).rest).err := by rw [many_snoc]
theorem kept_row {w w' : World} {base : Nat} {e : TypeId} {size n : Nat} {v : Value} {xs : List Value} {r : Nat} (h : w.ownsRow base e size v n xs) (hb : w.grownBy w' (some r)) (hr : r < base) : w'.ownsRow base e size v n xs :=
  h.kept hb (by
    rcases h.2 with ⟨rfl, _⟩ | ⟨g', cap, cur, rfl, hg, _⟩
    · exact .inl rfl
    · exact .inr (by simp [Value.ownBlock]; omega))

set_option maxHeartbeats 1000000 in
set_option maxRecDepth 20000 in
theorem toPlayer_c (g : Nat) (p : Pl) (w : World) (hc : Cells w g 21 (i32v p.nums)) (h4 : p.h < 256) (h5 : p.c < 256) (h6 : p.f < 256) :
    Calls Tryz.prog 167 #[.slice (some ⟨g, 0, none⟩) 7 7] w fun E w' => E = .returned (pv p) ∧ w.grownBy w' none := by
  have a0 : ∀ w', On w.heap.size w w' → w'.cell? ⟨g, 0, none⟩ = some (.int .i32 p.x) := on_cell hc hc.lt 0 rfl
  have a1 : ∀ w', On w.heap.size w w' → w'.cell? ⟨g, 1, none⟩ = some (.int .i32 p.y) := on_cell hc hc.lt 1 rfl
  have a2 : ∀ w', On w.heap.size w w' → w'.cell? ⟨g, 2, none⟩ = some (.int .i32 p.vx) := on_cell hc hc.lt 2 rfl
  have a3 : ∀ w', On w.heap.size w w' → w'.cell? ⟨g, 3, none⟩ = some (.int .i32 p.vy) := on_cell hc hc.lt 3 rfl
  have a4 : ∀ w', On w.heap.size w w' → w'.cell? ⟨g, 4, none⟩ = some (.int .i32 (p.h : Int)) := on_cell hc hc.lt 4 rfl
  have a5 : ∀ w', On w.heap.size w w' → w'.cell? ⟨g, 5, none⟩ = some (.int .i32 (p.c : Int)) := on_cell hc hc.lt 5 rfl
  have a6 : ∀ w', On w.heap.size w w' → w'.cell? ⟨g, 6, none⟩ = some (.int .i32 (p.f : Int)) := on_cell hc hc.lt 6 rfl
  have e4 := u8_id h4
  have e5 := u8_id h5
  have e6 := u8_id h6
  have o0 : On w.heap.size w (w.alloc (.cells #[.int .i32 0, .int .i32 0, .int .i32 0, .int .i32 0, .int .u8 0, .int .u8 0, .int .u8 0] 29)).drew := on_drewB (on_alloc (On.refl _ _))
  clear h4 h5 h6 hc
  go_enter Tryz.func167, Tryz.ntmps167
  go_wp2_with fail
  go_region_held3 (fun w' => On w.heap.size w w') (first | with_reducible assumption | (repeat' (first | with_reducible assumption | with_reducible exact On.refl _ _ | with_reducible refine on_drewB ?_ | with_reducible refine on_alloc ?_ | (refine Below.setCell ?_ (Nat.le_refl _) _)))) (fail)
  go_wp2
  refine bodyPost_ret (v := pv p) (by simp [results, Tryz.results167, go_sem, pv]) rfl ?_
  exact ⟨rfl, grown_mk _ _⟩
theorem info_Player : (Tryz.prog.info? 29).map (fun i => (i.zero, i.size, i.bytes)) = some (some (.agg #[.int .i32 0, .int .i32 0, .int .i32 0, .int .i32 0, .int .u8 0, .int .u8 0, .int .u8 0]), 7, 20) := by kernel_rfl
def Pcs (p : Pl) : List Value := [.int .i32 p.x, .int .i32 p.y, .int .i32 p.vx, .int .i32 p.vy, .int .u8 (p.h : Int), .int .u8 (p.c : Int), .int .u8 (p.f : Int)]
def Pall (l : List Pl) : List Value := l.flatMap Pcs
theorem Pall_snoc (l : List Pl) (p : Pl) : Pall (l ++ [p]) = Pall l ++ Pcs p := by simp [Pall]
theorem P_done {v : List Nat} (h : okM okN 7 0 v) : rowN 7 v = i32v (mkP v).nums ∧ (mkP v).fit := by
  obtain ⟨a0, r0, rfl, h0, a1, r1, rfl, h1, a2, r2, rfl, h2, a3, r3, rfl, h3, a4, r4, rfl, h4, a5, r5, rfl, h5, a6, r6, rfl, h6, rfl⟩ := h
  exact ⟨by simp [rowN, nvs, nvI, mkP, Pl.nums], wrap32_fit _, wrap32_fit _, wrap32_fit _, wrap32_fit _, h4, h5, h6⟩
set_option maxHeartbeats 2000000 in
set_option maxRecDepth 20000 in
theorem takePl (r n : Nat) (l : List UInt8) (e : Int) (w : World) (h : Rd w r l e) (hn : n ≤ 8) :
    Calls Tryz.prog 166 #[.pointer (some ⟨r, 0, none⟩), .int .u64 n, .int .i64 7, .func (.func 167) #[] #[]] w fun E w' =>
      ∃ ao cap, E = .returned (.slice ao n cap) ∧ w'.ownsRow w.heap.size 29 7 (.slice ao n cap) n (Pall ((many (fun _ => pR) n 0 l).val.map mkP)) ∧ Rd w' r (many (fun _ => pR) n 0 l).rest (fin e (many (fun _ => pR) n 0 l).err) ∧ w.grownBy w' (some r) := by
  have hrw := h.1.lt
  have hmk : ∀ W : World, (Instr.makeSlice 224 (.int .i64 7) (.int .i64 7)).run Tryz.prog W = .ok (.slice (some ⟨W.heap.size, 0, none⟩) 7 7) (W.alloc (.cells (rowN 7 []) 21)) := fun W => by
    rw [rowN_nil]; exact run_make_row' (P := Tryz.prog) 224 21 (.int .i32 0) 4 Tryz.underlying224 info_i32 rfl .i64 .i64 7 (by decide) (by decide) W
  go_enter Tryz.func166, Tryz.ntmps166
  go_wp2
  go_loopw [9, 13] (fun v c wr => ∃ (k : Nat) (ao : Option Addr) (cap : Nat), k ≤ n ∧ c = .int .u64 k ∧ v = .slice ao k cap ∧ Hid (wr.ownsRow w.heap.size 29 7 (.slice ao k cap) k (Pall ((many (fun _ => pR) k 0 l).val.map mkP))) ∧ Hid (Rd wr r (many (fun _ => pR) k 0 l).rest (fin e (many (fun _ => pR) k 0 l).err)) ∧ Hid (w.grownBy wr (some r))) (fun _ c _ => n - (intOf c).toNat)
  case atStart => exact ⟨0, none, 0, by omega, rfl, rfl, World.ownsRow_nil _ _ _ _, (show Rd _ _ _ _ by simpa [many, fin_zero] using h), grown_refl _ _⟩
  case round =>
    obtain ⟨k, ao, cap, hk, rfl, rfl, HO, HR, HG⟩ := hrel
    obtain ⟨w0, rfl⟩ : ∃ w0, w0 = wr := ⟨_, rfl⟩
    by_cases hlt : k < n
    · have HSV : Hid ((many (fun _ => pR) (k + 1) 0 l).val = (many (fun _ => pR) k 0 l).val ++ [(pR (many (fun _ => pR) k 0 l).rest).val]) := many_val (fun _ => pR) k 0 l
      have HSR : Hid ((many (fun _ => pR) (k + 1) 0 l).rest = (pR (many (fun _ => pR) k 0 l).rest).rest) := many_rest (fun _ => pR) k 0 l
      have HSE : Hid ((many (fun _ => pR) (k + 1) 0 l).err = fin (many (fun _ => pR) k 0 l).err (pR (many (fun _ => pR) k 0 l).rest).err) := many_err (fun _ => pR) k 0 l
      clear h
      generalize many (fun _ => pR) k 0 l = Q at *
      go_wp2
      go_loopw [18] (fun c wx => ∃ j : Nat, j ≤ 7 ∧ c = .int .i64 j ∧ Hid (Cells wx w0.heap.size 21 (rowN 7 (many (fun i => num (wd i)) j 0 Q.rest).val)) ∧ Hid (Rd wx r (many (fun i => num (wd i)) j 0 Q.rest).rest (fin (fin e Q.err) (many (fun i => num (wd i)) j 0 Q.rest).err)) ∧ Hid (w0.grownBy wx (some r))) (fun c _ => 7 - (intOf c).toNat)
      case atStart => exact ⟨0, by omega, rfl, Cells.made _ _ _, (show Rd _ _ _ _ by simpa [many, fin_zero] using rd_on HR.out (grown_alloc _ _)), grown_any (grown_alloc _ _)⟩
      case round =>
        obtain ⟨j, hj, rfl, HC, HR2, HG2⟩ := hrel
        have hrr : w0.heap.size ≠ r := fun e => by have := HG.out.size; omega
        by_cases hlt2 : j < 7
        · have HSJ := Lib.hid (many_snoc (fun i => num (wd i)) j 0 Q.rest)
          have hlen := many_len (fun i => num (wd i)) j 0 Q.rest
          generalize many (fun i => num (wd i)) j 0 Q.rest = M at *
          obtain ⟨ME, MV, MR⟩ := M
          dsimp only at HC HR2 HSJ hlen
          by_cases h4 : j < 4
          · have HW : Hid (wd (0 + j) = 4) := by show _ = _; unfold wd; rw [if_pos (by omega)]
            have hv : nvI j (num 4 MR).val = wrap32 ((num 4 MR).val : Int) := if_pos h4
            have HST := Lib.hid (rowN_set 7 MV (num 4 MR).val (by omega))
            rw [hlen, hv] at HST
            rw [HW.out] at HSJ
            have hln : (rowN 7 MV)[j]? = some (.int .i32 0) := rowN_at 7 MV j hlen hlt2
            clear hv
            go_wp2_with fail
            refine (rdI32 r MR _ _ HR2.out).mono ?_
            rintro E w2 ⟨rfl, hr2⟩
            have HR3 := Lib.hid hr2
            have hc2 := HC.out.grown hr2.2 (by simpa using hrr)
            have hgl := hc2.lt
            have f0 := hc2.frozen j
            have c0 : w2.cell? ⟨w0.heap.size, j, none⟩ = some (.int .i32 0) := by rw [hc2.cell, hln]
            have HC2 := Lib.hid hc2
            clear hr2 hc2 hlen hln
            go_wp2
            go_roundw
            case rel =>
              refine ⟨j + 1, by omega, by go_num, ?_, ?_, ?_⟩
              · rw [HSJ.out]
                show Cells _ _ _ (rowN 7 (MV ++ [_]))
                rw [← HST.out]
                exact HC2.out.set j _
              · rw [HSJ.out]
                show Rd _ r (num 4 MR).rest (fin (fin e Q.err) (fin ME (num 4 MR).err))
                rw [← fin_fin]
                exact ⟨HR3.out.1.1.far (Ne.symm hrr) _, HR3.out.1.2⟩
              · exact grown_setNew (HG2.out.trans HR3.out.2) (Nat.le_refl _)
            case measure => simp [intOf]; omega
          · have HW : Hid (wd (0 + j) = 1) := by show _ = _; unfold wd; rw [if_neg (by omega)]
            have hv : nvI j (num 1 MR).val = ((num 1 MR).val : Int) := if_neg h4
            have HST := Lib.hid (rowN_set 7 MV (num 1 MR).val (by omega))
            rw [hlen, hv] at HST
            rw [HW.out] at HSJ
            have hln : (rowN 7 MV)[j]? = some (.int .i32 0) := rowN_at 7 MV j hlen hlt2
            have hcv := i32_id (n := (num 1 MR).val) (by simpa using num_lt 1 MR)
            clear hv
            go_wp2_with fail
            refine (rdU8 r MR _ _ HR2.out).mono ?_
            rintro E w2 ⟨rfl, hr2⟩
            have HR3 := Lib.hid hr2
            have hc2 := HC.out.grown hr2.2 (by simpa using hrr)
            have hgl := hc2.lt
            have f0 := hc2.frozen j
            have c0 : w2.cell? ⟨w0.heap.size, j, none⟩ = some (.int .i32 0) := by rw [hc2.cell, hln]
            have HC2 := Lib.hid hc2
            clear hr2 hc2 hlen hln
            go_wp2
            go_roundw
            case rel =>
              refine ⟨j + 1, by omega, by go_num, ?_, ?_, ?_⟩
              · rw [HSJ.out]
                show Cells _ _ _ (rowN 7 (MV ++ [_]))
                rw [← HST.out]
                exact HC2.out.set j _
              · rw [HSJ.out]
                show Rd _ r (num 1 MR).rest (fin (fin e Q.err) (fin ME (num 1 MR).err))
                rw [← fin_fin]
                exact ⟨HR3.out.1.1.far (Ne.symm hrr) _, HR3.out.1.2⟩
              · exact grown_setNew (HG2.out.trans HR3.out.2) (Nat.le_refl _)
            case measure => simp [intOf]; omega
        · obtain rfl : j = 7 := by omega
          have hfit := P_done (many_lt 7 0 Q.rest)
          have HC3 : Hid (Cells wr w0.heap.size 21 (i32v (mkP (pR Q.rest).val).nums)) := by show Cells _ _ _ _; rw [← hfit.1]; exact HC.out
          have HF := Lib.hid hfit.2
          have HXE : Hid ((Q.val ++ [(pR Q.rest).val]).map mkP = Q.val.map mkP ++ [mkP (pR Q.rest).val]) := by show _ = _; simp
          have HRE : Hid (Rd wr r (pR Q.rest).rest (fin (fin e Q.err) (pR Q.rest).err)) := HR2.out
          have HO3 := Lib.hid (kept_row HO.out HG2.out hrw)
          have hrw0 : w.heap.size ≤ w0.heap.size := HG.out.size
          have hw0r : w0.heap.size ≤ wr.heap.size := HG2.out.size
          clear hfit HC hmk HR2 HR HO
          generalize hqv : (pR Q.rest).val = qv at *
          generalize (pR Q.rest).rest = qr at *
          generalize (pR Q.rest).err = qe at *
          clear hqv
          generalize mkP qv = x at *
          generalize hold : Pall (Q.val.map mkP) = old at *
          have HOE := Lib.hid hold
          clear hold
          go_wp2_with fail
          refine (toPlayer_c w0.heap.size x _ HC3.out HF.out.2.2.2.2.1 HF.out.2.2.2.2.2.1 HF.out.2.2.2.2.2.2).mono ?_
          rintro E w2 ⟨rfl, hb2⟩
          have hown := World.ownsRow.kept HO3.out hb2 (Classical.em _)
          have HB2 := Lib.hid hb2
          have hsz2 : w0.heap.size ≤ w2.heap.size := Nat.le_trans hw0r hb2.size
          clear hb2
          obtain ⟨i0, hi0, hz0, hz1, hz2⟩ := info_parts info_Player
          have HI0 := Lib.hid hi0
          have HZ0 := Lib.hid hz0
          have HZ1 := Lib.hid hz1
          have HZ2 := Lib.hid hz2
          clear hi0 hz0 hz1 hz2
          have hb1 : k + 1 ≤ maxLen := by simp only [maxLen]; omega
          have hb2 : (k + 1) * 20 ≤ 140737488355328 := by omega
          unfold pv
          go_wp2_with (at_builtin; refine wpList_append_lies _ rfl (.tmp 35) (.tmp 39) 187 rfl w.heap.size 29 i0 (.agg #[.int .i32 0, .int .i32 0, .int .i32 0, .int .i32 0, .int .u8 0, .int .u8 0, .int .u8 0]) 7 20 Tryz.underlying187 HI0.out HZ0.out HZ1.out HZ2.out rfl (by decide) _ _ _ (by simp [Act.eval]) (World.ownsRow.alloc hown _) ⟨w2.heap.size, 0, none⟩ 1 1 (Pcs x) (by simp [Act.eval]) rfl (World.news_of_block (heap_alloc_new _ _)) (by simp [Pcs, Value.oneCell']) (by decide) hb1 hb2 (by simp; omega) _ rfl ?_; intro g' cap' w3 hown1 hgr hat hlt1)
          have hob : ∀ q, (Value.slice ao k cap).ownBlock = some q → w.heap.size ≤ q := fun q e => (hown.lt q e).1
          have HG3 := Lib.hid hgr
          have HO4 := Lib.hid hown1
          have HOB := Lib.hid hob
          clear hgr hat hown1 hob hown
          go_wp2
          go_roundw
          case rel =>
            refine ⟨k + 1, some ⟨g', 0, none⟩, cap', by omega, by go_num, by go_num, ?_, ?_, ?_⟩
            · rw [HSV.out, HXE.out, Pall_snoc, HOE.out]
              exact HO4.out
            · rw [HSR.out, HSE.out, ← fin_fin]
              have h1 := rd_on (rd_on HRE.out HB2.out) (grown_alloc w2 (.cells #[.int .i32 x.x, .int .i32 x.y, .int .i32 x.vx, .int .i32 x.vy, .int .u8 (x.h : Int), .int .u8 (x.c : Int), .int .u8 (x.f : Int)] 29))
              exact ⟨h1.1.grown HG3.out (fun q => by have := HOB.out r q.symm; omega), h1.2⟩
            · exact grown_row (((HG.out.trans HG2.out).trans (grown_any HB2.out)).trans (grown_any (grown_alloc _ _))) HG3.out HOB.out
          case measure => simp [intOf]; omega
    · have hx : k = n := by omega
      subst hx
      clear h
      go_wp2
      go_ret
      exact ⟨ao, cap, rfl, HO.out, HR.out, HG.out⟩

set_option maxHeartbeats 1000000 in
set_option maxRecDepth 20000 in
theorem toShot_c (g : Nat) (p : Sh) (w : World) (hc : Cells w g 21 (i32v p.nums)) (h4 : p.o < 256) (h5 : p.l < 256) :
    Calls Tryz.prog 170 #[.slice (some ⟨g, 0, none⟩) 6 6] w fun E w' => E = .returned (hv p) ∧ w.grownBy w' none := by
  have a0 : ∀ w', On w.heap.size w w' → w'.cell? ⟨g, 0, none⟩ = some (.int .i32 p.x) := on_cell hc hc.lt 0 rfl
  have a1 : ∀ w', On w.heap.size w w' → w'.cell? ⟨g, 1, none⟩ = some (.int .i32 p.y) := on_cell hc hc.lt 1 rfl
  have a2 : ∀ w', On w.heap.size w w' → w'.cell? ⟨g, 2, none⟩ = some (.int .i32 p.vx) := on_cell hc hc.lt 2 rfl
  have a3 : ∀ w', On w.heap.size w w' → w'.cell? ⟨g, 3, none⟩ = some (.int .i32 p.vy) := on_cell hc hc.lt 3 rfl
  have a4 : ∀ w', On w.heap.size w w' → w'.cell? ⟨g, 4, none⟩ = some (.int .i32 (p.o : Int)) := on_cell hc hc.lt 4 rfl
  have a5 : ∀ w', On w.heap.size w w' → w'.cell? ⟨g, 5, none⟩ = some (.int .i32 (p.l : Int)) := on_cell hc hc.lt 5 rfl
  have e4 := u8_id h4
  have e5 := u8_id h5
  have o0 : On w.heap.size w (w.alloc (.cells #[.int .i32 0, .int .i32 0, .int .i32 0, .int .i32 0, .int .u8 0, .int .u8 0] 98)).drew := on_drewB (on_alloc (On.refl _ _))
  clear h4 h5 hc
  go_enter Tryz.func170, Tryz.ntmps170
  go_wp2_with fail
  go_region_held3 (fun w' => On w.heap.size w w') (first | with_reducible assumption | (repeat' (first | with_reducible assumption | with_reducible exact On.refl _ _ | with_reducible refine on_drewB ?_ | with_reducible refine on_alloc ?_ | (refine Below.setCell ?_ (Nat.le_refl _) _)))) (fail)
  go_wp2
  refine bodyPost_ret (v := hv p) (by simp [results, Tryz.results170, go_sem, hv]) rfl ?_
  exact ⟨rfl, grown_mk _ _⟩
theorem info_Shot : (Tryz.prog.info? 98).map (fun i => (i.zero, i.size, i.bytes)) = some (some (.agg #[.int .i32 0, .int .i32 0, .int .i32 0, .int .i32 0, .int .u8 0, .int .u8 0]), 6, 20) := by kernel_rfl
def Hcs (p : Sh) : List Value := [.int .i32 p.x, .int .i32 p.y, .int .i32 p.vx, .int .i32 p.vy, .int .u8 (p.o : Int), .int .u8 (p.l : Int)]
def Hall (l : List Sh) : List Value := l.flatMap Hcs
theorem Hall_snoc (l : List Sh) (p : Sh) : Hall (l ++ [p]) = Hall l ++ Hcs p := by simp [Hall]
theorem H_done {v : List Nat} (h : okM okN 6 0 v) : rowN 6 v = i32v (mkH v).nums ∧ (mkH v).fit := by
  obtain ⟨a0, r0, rfl, h0, a1, r1, rfl, h1, a2, r2, rfl, h2, a3, r3, rfl, h3, a4, r4, rfl, h4, a5, r5, rfl, h5, rfl⟩ := h
  exact ⟨by simp [rowN, nvs, nvI, mkH, Sh.nums], wrap32_fit _, wrap32_fit _, wrap32_fit _, wrap32_fit _, h4, h5⟩
set_option maxHeartbeats 2000000 in
set_option maxRecDepth 20000 in
theorem takeSh (r n : Nat) (l : List UInt8) (e : Int) (w : World) (h : Rd w r l e) (hn : n ≤ 8) :
    Calls Tryz.prog 169 #[.pointer (some ⟨r, 0, none⟩), .int .u64 n, .int .i64 6, .func (.func 170) #[] #[]] w fun E w' =>
      ∃ ao cap, E = .returned (.slice ao n cap) ∧ w'.ownsRow w.heap.size 98 6 (.slice ao n cap) n (Hall ((many (fun _ => hR) n 0 l).val.map mkH)) ∧ Rd w' r (many (fun _ => hR) n 0 l).rest (fin e (many (fun _ => hR) n 0 l).err) ∧ w.grownBy w' (some r) := by
  have hrw := h.1.lt
  have hmk : ∀ W : World, (Instr.makeSlice 224 (.int .i64 6) (.int .i64 6)).run Tryz.prog W = .ok (.slice (some ⟨W.heap.size, 0, none⟩) 6 6) (W.alloc (.cells (rowN 6 []) 21)) := fun W => by
    rw [rowN_nil]; exact run_make_row' (P := Tryz.prog) 224 21 (.int .i32 0) 4 Tryz.underlying224 info_i32 rfl .i64 .i64 6 (by decide) (by decide) W
  go_enter Tryz.func169, Tryz.ntmps169
  go_wp2
  go_loopw [9, 13] (fun v c wr => ∃ (k : Nat) (ao : Option Addr) (cap : Nat), k ≤ n ∧ c = .int .u64 k ∧ v = .slice ao k cap ∧ Hid (wr.ownsRow w.heap.size 98 6 (.slice ao k cap) k (Hall ((many (fun _ => hR) k 0 l).val.map mkH))) ∧ Hid (Rd wr r (many (fun _ => hR) k 0 l).rest (fin e (many (fun _ => hR) k 0 l).err)) ∧ Hid (w.grownBy wr (some r))) (fun _ c _ => n - (intOf c).toNat)
  case atStart => exact ⟨0, none, 0, by omega, rfl, rfl, World.ownsRow_nil _ _ _ _, (show Rd _ _ _ _ by simpa [many, fin_zero] using h), grown_refl _ _⟩
  case round =>
    obtain ⟨k, ao, cap, hk, rfl, rfl, HO, HR, HG⟩ := hrel
    obtain ⟨w0, rfl⟩ : ∃ w0, w0 = wr := ⟨_, rfl⟩
    by_cases hlt : k < n
    · have HSV : Hid ((many (fun _ => hR) (k + 1) 0 l).val = (many (fun _ => hR) k 0 l).val ++ [(hR (many (fun _ => hR) k 0 l).rest).val]) := many_val (fun _ => hR) k 0 l
      have HSR : Hid ((many (fun _ => hR) (k + 1) 0 l).rest = (hR (many (fun _ => hR) k 0 l).rest).rest) := many_rest (fun _ => hR) k 0 l
      have HSE : Hid ((many (fun _ => hR) (k + 1) 0 l).err = fin (many (fun _ => hR) k 0 l).err (hR (many (fun _ => hR) k 0 l).rest).err) := many_err (fun _ => hR) k 0 l
      clear h
      generalize many (fun _ => hR) k 0 l = Q at *
      go_wp2
      go_loopw [18] (fun c wx => ∃ j : Nat, j ≤ 6 ∧ c = .int .i64 j ∧ Hid (Cells wx w0.heap.size 21 (rowN 6 (many (fun i => num (wd i)) j 0 Q.rest).val)) ∧ Hid (Rd wx r (many (fun i => num (wd i)) j 0 Q.rest).rest (fin (fin e Q.err) (many (fun i => num (wd i)) j 0 Q.rest).err)) ∧ Hid (w0.grownBy wx (some r))) (fun c _ => 6 - (intOf c).toNat)
      case atStart => exact ⟨0, by omega, rfl, Cells.made _ _ _, (show Rd _ _ _ _ by simpa [many, fin_zero] using rd_on HR.out (grown_alloc _ _)), grown_any (grown_alloc _ _)⟩
      case round =>
        obtain ⟨j, hj, rfl, HC, HR2, HG2⟩ := hrel
        have hrr : w0.heap.size ≠ r := fun e => by have := HG.out.size; omega
        by_cases hlt2 : j < 6
        · have HSJ := Lib.hid (many_snoc (fun i => num (wd i)) j 0 Q.rest)
          have hlen := many_len (fun i => num (wd i)) j 0 Q.rest
          generalize many (fun i => num (wd i)) j 0 Q.rest = M at *
          obtain ⟨ME, MV, MR⟩ := M
          dsimp only at HC HR2 HSJ hlen
          by_cases h4 : j < 4
          · have HW : Hid (wd (0 + j) = 4) := by show _ = _; unfold wd; rw [if_pos (by omega)]
            have hv : nvI j (num 4 MR).val = wrap32 ((num 4 MR).val : Int) := if_pos h4
            have HST := Lib.hid (rowN_set 6 MV (num 4 MR).val (by omega))
            rw [hlen, hv] at HST
            rw [HW.out] at HSJ
            have hln : (rowN 6 MV)[j]? = some (.int .i32 0) := rowN_at 6 MV j hlen hlt2
            clear hv
            go_wp2_with fail
            refine (rdI32 r MR _ _ HR2.out).mono ?_
            rintro E w2 ⟨rfl, hr2⟩
            have HR3 := Lib.hid hr2
            have hc2 := HC.out.grown hr2.2 (by simpa using hrr)
            have hgl := hc2.lt
            have f0 := hc2.frozen j
            have c0 : w2.cell? ⟨w0.heap.size, j, none⟩ = some (.int .i32 0) := by rw [hc2.cell, hln]
            have HC2 := Lib.hid hc2
            clear hr2 hc2 hlen hln
            go_wp2
            go_roundw
            case rel =>
              refine ⟨j + 1, by omega, by go_num, ?_, ?_, ?_⟩
              · rw [HSJ.out]
                show Cells _ _ _ (rowN 6 (MV ++ [_]))
                rw [← HST.out]
                exact HC2.out.set j _
              · rw [HSJ.out]
                show Rd _ r (num 4 MR).rest (fin (fin e Q.err) (fin ME (num 4 MR).err))
                rw [← fin_fin]
                exact ⟨HR3.out.1.1.far (Ne.symm hrr) _, HR3.out.1.2⟩
              · exact grown_setNew (HG2.out.trans HR3.out.2) (Nat.le_refl _)
            case measure => simp [intOf]; omega
          · have HW : Hid (wd (0 + j) = 1) := by show _ = _; unfold wd; rw [if_neg (by omega)]
            have hv : nvI j (num 1 MR).val = ((num 1 MR).val : Int) := if_neg h4
            have HST := Lib.hid (rowN_set 6 MV (num 1 MR).val (by omega))
            rw [hlen, hv] at HST
            rw [HW.out] at HSJ
            have hln : (rowN 6 MV)[j]? = some (.int .i32 0) := rowN_at 6 MV j hlen hlt2
            have hcv := i32_id (n := (num 1 MR).val) (by simpa using num_lt 1 MR)
            clear hv
            go_wp2_with fail
            refine (rdU8 r MR _ _ HR2.out).mono ?_
            rintro E w2 ⟨rfl, hr2⟩
            have HR3 := Lib.hid hr2
            have hc2 := HC.out.grown hr2.2 (by simpa using hrr)
            have hgl := hc2.lt
            have f0 := hc2.frozen j
            have c0 : w2.cell? ⟨w0.heap.size, j, none⟩ = some (.int .i32 0) := by rw [hc2.cell, hln]
            have HC2 := Lib.hid hc2
            clear hr2 hc2 hlen hln
            go_wp2
            go_roundw
            case rel =>
              refine ⟨j + 1, by omega, by go_num, ?_, ?_, ?_⟩
              · rw [HSJ.out]
                show Cells _ _ _ (rowN 6 (MV ++ [_]))
                rw [← HST.out]
                exact HC2.out.set j _
              · rw [HSJ.out]
                show Rd _ r (num 1 MR).rest (fin (fin e Q.err) (fin ME (num 1 MR).err))
                rw [← fin_fin]
                exact ⟨HR3.out.1.1.far (Ne.symm hrr) _, HR3.out.1.2⟩
              · exact grown_setNew (HG2.out.trans HR3.out.2) (Nat.le_refl _)
            case measure => simp [intOf]; omega
        · obtain rfl : j = 6 := by omega
          have hfit := H_done (many_lt 6 0 Q.rest)
          have HC3 : Hid (Cells wr w0.heap.size 21 (i32v (mkH (hR Q.rest).val).nums)) := by show Cells _ _ _ _; rw [← hfit.1]; exact HC.out
          have HF := Lib.hid hfit.2
          have HXE : Hid ((Q.val ++ [(hR Q.rest).val]).map mkH = Q.val.map mkH ++ [mkH (hR Q.rest).val]) := by show _ = _; simp
          have HRE : Hid (Rd wr r (hR Q.rest).rest (fin (fin e Q.err) (hR Q.rest).err)) := HR2.out
          have HO3 := Lib.hid (kept_row HO.out HG2.out hrw)
          have hrw0 : w.heap.size ≤ w0.heap.size := HG.out.size
          have hw0r : w0.heap.size ≤ wr.heap.size := HG2.out.size
          clear hfit HC hmk HR2 HR HO
          generalize hqv : (hR Q.rest).val = qv at *
          generalize (hR Q.rest).rest = qr at *
          generalize (hR Q.rest).err = qe at *
          clear hqv
          generalize mkH qv = x at *
          generalize hold : Hall (Q.val.map mkH) = old at *
          have HOE := Lib.hid hold
          clear hold
          go_wp2_with fail
          refine (toShot_c w0.heap.size x _ HC3.out HF.out.2.2.2.2.1 HF.out.2.2.2.2.2).mono ?_
          rintro E w2 ⟨rfl, hb2⟩
          have hown := World.ownsRow.kept HO3.out hb2 (Classical.em _)
          have HB2 := Lib.hid hb2
          have hsz2 : w0.heap.size ≤ w2.heap.size := Nat.le_trans hw0r hb2.size
          clear hb2
          obtain ⟨i0, hi0, hz0, hz1, hz2⟩ := info_parts info_Shot
          have HI0 := Lib.hid hi0
          have HZ0 := Lib.hid hz0
          have HZ1 := Lib.hid hz1
          have HZ2 := Lib.hid hz2
          clear hi0 hz0 hz1 hz2
          have hb1 : k + 1 ≤ maxLen := by simp only [maxLen]; omega
          have hb2 : (k + 1) * 20 ≤ 140737488355328 := by omega
          unfold hv
          go_wp2_with (at_builtin; refine wpList_append_lies _ rfl (.tmp 35) (.tmp 39) 31 rfl w.heap.size 98 i0 (.agg #[.int .i32 0, .int .i32 0, .int .i32 0, .int .i32 0, .int .u8 0, .int .u8 0]) 6 20 Tryz.underlying31 HI0.out HZ0.out HZ1.out HZ2.out rfl (by decide) _ _ _ (by simp [Act.eval]) (World.ownsRow.alloc hown _) ⟨w2.heap.size, 0, none⟩ 1 1 (Hcs x) (by simp [Act.eval]) rfl (World.news_of_block (heap_alloc_new _ _)) (by simp [Hcs, Value.oneCell']) (by decide) hb1 hb2 (by simp; omega) _ rfl ?_; intro g' cap' w3 hown1 hgr hat hlt1)
          have hob : ∀ q, (Value.slice ao k cap).ownBlock = some q → w.heap.size ≤ q := fun q e => (hown.lt q e).1
          have HG3 := Lib.hid hgr
          have HO4 := Lib.hid hown1
          have HOB := Lib.hid hob
          clear hgr hat hown1 hob hown
          go_wp2
          go_roundw
          case rel =>
            refine ⟨k + 1, some ⟨g', 0, none⟩, cap', by omega, by go_num, by go_num, ?_, ?_, ?_⟩
            · rw [HSV.out, HXE.out, Hall_snoc, HOE.out]
              exact HO4.out
            · rw [HSR.out, HSE.out, ← fin_fin]
              have h1 := rd_on (rd_on HRE.out HB2.out) (grown_alloc w2 (.cells #[.int .i32 x.x, .int .i32 x.y, .int .i32 x.vx, .int .i32 x.vy, .int .u8 (x.o : Int), .int .u8 (x.l : Int)] 98))
              exact ⟨h1.1.grown HG3.out (fun q => by have := HOB.out r q.symm; omega), h1.2⟩
            · exact grown_row (((HG.out.trans HG2.out).trans (grown_any HB2.out)).trans (grown_any (grown_alloc _ _))) HG3.out HOB.out
          case measure => simp [intOf]; omega
    · have hx : k = n := by omega
      subst hx
      clear h
      go_wp2
      go_ret
      exact ⟨ao, cap, rfl, HO.out, HR.out, HG.out⟩
end Go.Proofs.YtacgmadgkmcmoaaGreatDoor
/- Take: the state that bytes are: its contract. -/
namespace Go.Proofs.YtacgmadgkmcmoaaGreatDoor
open Go.RowKit
set_option linter.unusedVariables false

/-- A state laid down whole. -/
def storeState (p v : Value) : Sem Unit := Instr.storeAt 34 p v
theorem storeAt_state (p v : Value) : Instr.storeAt 34 p v = storeState p v := rfl
theorem info_StSz : (Tryz.prog.info? 34).map (·.size) = some 19 := by kernel_rfl
theorem run_storeState {w : World} {g : Nat} {t : TypeId} {old cs : Array Value} (h : Cells w g t old) (ho : old.size = 19) (hc : cs.size = 19) (h1 : ∀ v ∈ cs.toList, v.oneCell' = true) :
    (storeState (.pointer (some ⟨g, 0, none⟩)) (.agg cs)).run Tryz.prog w = .ok () (w.setRow g cs) := by
  have hst := run_storeCells_at Tryz.prog g 0 t cs.toList 0 old w h (by simp [ho, hc]) h1
  have e0 : (old.toList.take (0 + 0) ++ cs.toList ++ old.toList.drop (0 + 0 + cs.toList.length)).toArray = cs := by
    rw [show cs.toList.length = 19 from by simpa using hc, List.drop_of_length_le (by simp [ho])]; simp
  rw [e0] at hst
  cases hq : Tryz.prog.info? 34 with
  | none => have := info_StSz; rw [hq] at this; simp at this
  | some i =>
    have hi : i.size = 19 := by have := info_StSz; rw [hq] at this; simpa using this
    simp [storeState, Instr.storeAt, Instr.sureAddr, storeVar, sizeOf, typeInfo, hq, hi, Value.cells, hc, hst]
attribute [local go_sem ↓] loadAt_state storeAt_state
attribute [local go_sem] run_loadState rowOf_new rowOf_old rowOf_drew rowOf_drewN
abbrev zst : Array Value := stc .zero none 0
theorem hall_at : ∀ (l : List Sh) (k : Nat) (hk : k < l.length) (i : Nat) (v : Value), (Hcs (l[k]'hk))[i]? = some v → (Hall l)[k * 6 + i]? = some v
  | a :: l, 0, _, i, v, hv => by
    have hi : i < 6 := by
      rcases Nat.lt_or_ge i 6 with h1 | h1
      · exact h1
      · rw [List.getElem?_eq_none (by simpa [Hcs] using h1)] at hv; cases hv
    simp only [Hall, List.flatMap_cons]
    rw [List.getElem?_append_left (by simp [Hcs]; omega)]
    simpa using hv
  | a :: l, k + 1, hk, i, v, hv => by
    have ih := hall_at l k (by simpa using hk) i v hv
    simp only [Hall, List.flatMap_cons]
    rw [List.getElem?_append_right (by simp [Hcs]; omega)]
    simp only [Hcs, List.length_cons, List.length_nil]
    rw [show (k + 1) * 6 + i - (0 + 1 + 1 + 1 + 1 + 1 + 1) = k * 6 + i from by omega]
    exact ih
/-- Shots that a call owns can be read. -/
theorem shs_own {w : World} {B n : Nat} {ao : Option Addr} {cap : Nat} {l : List Sh} (h : w.ownsRow B 98 6 (.slice ao n cap) n (Hall l)) (hl : l.length = n) (hf : ∀ x ∈ l, x.fit) : Shs w ao l := fun k hk => by
  refine ⟨hf _ (List.getElem_mem hk), ?_⟩
  rcases h.2 with ⟨_, h0⟩ | ⟨g, cap', cur, he, _⟩
  · omega
  · injection he with e1 e2 e3
    subst e1
    refine ⟨g, 0, rfl, fun i v hv => ?_⟩
    have hi : i < 6 := by
      rcases Nat.lt_or_ge i 6 with h1 | h1
      · exact h1
      · rw [List.getElem?_eq_none (by simpa using h1)] at hv; cases hv
    have hx : (Hall l)[k * 6 + i]? = some v := hall_at l k hk i v hv
    have := World.ownsRow.cells h (g := g) rfl (k * 6 + i) v hx
    have e : (⟨g, 0, none⟩ : Addr).add (k * 6 + i) = ⟨g, 0 + k * 6 + i, none⟩ := by unfold Addr.add; split <;> simp_all
    rwa [e] at this
section
variable {w : World} {g : Nat} {s : St} {ao : Option Addr} {cap : Nat}
theorem bk_set0 (h : Bk w g s ao cap) (n : Nat) : Bk (w.setCell ⟨g, 0, none⟩ (.int .u64 (n : Int))) g { s with fr := n } ao cap := by
  have := Cells.set h 0 (.int .u64 (n : Int)); simpa [Bk] using this
theorem bk_set1 (h : Bk w g s ao cap) (n : Nat) : Bk (w.setCell ⟨g, 1, none⟩ (.int .u64 (n : Int))) g { s with sd := n } ao cap := by
  have := Cells.set h 1 (.int .u64 (n : Int)); simpa [Bk] using this
theorem bk_set16 (h : Bk w g s ao cap) (l : List Sh) (n : Nat) (hl : l.length = n) (a : Option Addr) (c : Nat) : Bk (w.setCell ⟨g, 16, none⟩ (.slice a n c)) g { s with ss := l } a c := by
  subst hl
  have := Cells.set h 16 (.slice a l.length c); simpa [Bk] using this
theorem bk_set17 (h : Bk w g s ao cap) (n : Nat) : Bk (w.setCell ⟨g, 17, none⟩ (.int .u16 (n : Int))) g { s with s0 := n } ao cap := by
  have := Cells.set h 17 (.int .u16 (n : Int)); simpa [Bk] using this
theorem bk_set18 (h : Bk w g s ao cap) (n : Nat) : Bk (w.setCell ⟨g, 18, none⟩ (.int .u16 (n : Int))) g { s with s1 := n } ao cap := by
  have := Cells.set h 18 (.int .u16 (n : Int)); simpa [Bk] using this
end
theorem info_PlSz : (Tryz.prog.info? 29).map (·.size) = some 7 := by kernel_rfl
/-- Two players laid into a state's block. -/
theorem copy_two {w : World} {g : Nat} {s : St} {ao : Option Addr} {cap : Nat} (h : Bk w g s ao cap) (p q : Pl) (ap : Option Addr) (c n : Nat) (B : Nat) (ty : TypeId) (hown : w.ownsRow B 29 7 (.slice ap 2 c) 2 (Pall [p, q])) :
    ∃ w', (Builtin.copy_ #[187, 187] ty #[.slice (some ⟨g, 2, none⟩) 2 n, .slice ap 2 c]).run Tryz.prog w = .ok (.int .i64 2) w' ∧ Bk w' g { s with p := p, q := q } ao cap ∧ w.grownBy w' (some g) := by
  obtain ⟨b, c', he, _, _⟩ := hown.form (by decide)
  injection he with e1 e2 e3
  subst e1
  have hsrc := World.ownsRow.cells hown (g := b) rfl
  have hlen : (Pall [p, q]).length = 14 := rfl
  have h1 : ∀ v ∈ Pall [p, q], v.oneCell' = true := by simp [Pall, Pcs, Value.oneCell']
  have hl := run_loadCells_list (P := Tryz.prog) w ⟨b, 0, none⟩ (Pall [p, q]) hsrc
  have hst := run_storeCells_at Tryz.prog g 2 _ (Pall [p, q]) 0 (stc s ao cap) w h (by rw [hlen]; show 16 ≤ 19; decide) h1
  rw [hlen] at hl hst
  have e0 : ((stc s ao cap).toList.take (2 + 0) ++ Pall [p, q] ++ (stc s ao cap).toList.drop (2 + 0 + 14)).toArray = stc { s with p := p, q := q } ao cap := rfl
  rw [e0] at hst
  cases hq : Tryz.prog.info? 29 with
  | none => have := info_PlSz; rw [hq] at this; simp at this
  | some i =>
    have hi : i.size = 7 := by have := info_PlSz; rw [hq] at this; simpa using this
    refine ⟨w.setRow g (stc { s with p := p, q := q } ao cap), ?_, setRow_heap w g _ _ _ _ h, ?_⟩
    · simp [Builtin.copy_, run_underlying Tryz.underlying187, Builtin.lenOf, Builtin.firstCells, sizeOf, typeInfo, hq, hi, hl, hst, goInt]
    · exact ⟨rfl, rfl, rfl, by simp [World.setRow], fun k hk hn => setRow_other _ _ _ _ (fun e => hn (by rw [e]))⟩
/-- What a call of Take has at hand: its reader, its state, its result's block. -/
structure TK (w wi : World) (l : List UInt8) (e : Int) (s : St) (ao : Option Addr) (cap : Nat) : Prop where
  rd : Rd wi (w.heap.size + 2) l e
  st : Bk wi (w.heap.size + 1) s ao cap
  re : Bk wi w.heap.size .zero none 0
  be : Below w.heap.size w wi
theorem tk_size {w wi : World} {l : List UInt8} {e : Int} {s : St} {ao : Option Addr} {cap : Nat} (h : TK w wi l e s ao cap) : w.heap.size + 2 < wi.heap.size := h.rd.1.lt
theorem tk_read {w wi wj : World} {l l' : List UInt8} {e e' : Int} {s : St} {ao : Option Addr} {cap : Nat} (h : TK w wi l e s ao cap) (k : RdTo wi (w.heap.size + 2) l' e' wj) : TK w wj l' e' s ao cap :=
  ⟨k.1, bk_grown h.st k.2 (by simp), bk_grown h.re k.2 (by simp), h.be.trans (grown_nb k.2 (fun q e => by cases e; omega) (by have := tk_size h; omega))⟩
theorem tk_grown {w wi wj : World} {l : List UInt8} {e : Int} {s : St} {ao : Option Addr} {cap : Nat} (h : TK w wi l e s ao cap) (k : wi.grownBy wj none) : TK w wj l e s ao cap :=
  ⟨rd_on h.rd k, bk_grown h.st k (by simp), bk_grown h.re k (by simp), h.be.trans ((below_of_grown k).mono (by have := tk_size h; omega))⟩
theorem tk_set {w wi : World} {l : List UInt8} {e : Int} {s s' : St} {ao ao' : Option Addr} {cap cap' i : Nat} {v : Value} (h : TK w wi l e s ao cap) (k : Bk (wi.setCell ⟨w.heap.size + 1, i, none⟩ v) (w.heap.size + 1) s' ao' cap') : TK w (wi.setCell ⟨w.heap.size + 1, i, none⟩ v) l e s' ao' cap' :=
  ⟨⟨h.rd.1.far (by simp) _, h.rd.2⟩, k, Cells.far h.re (by simp) _, h.be.setCell (by simp) _⟩
theorem tk_copy {w wi wj : World} {l : List UInt8} {e : Int} {s s' : St} {ao ao' : Option Addr} {cap cap' : Nat} (h : TK w wi l e s ao cap) (k : Bk wj (w.heap.size + 1) s' ao' cap') (g : wi.grownBy wj (some (w.heap.size + 1))) : TK w wj l e s' ao' cap' :=
  ⟨⟨h.rd.1.grown g (by simp), h.rd.2⟩, k, bk_grown h.re g (by simp), h.be.trans (grown_nb g (fun q e => by cases e; omega) (by have := tk_size h; omega))⟩
theorem st_frozen {w wi : World} {l : List UInt8} {e : Int} {s : St} {ao : Option Addr} {cap : Nat} (h : TK w wi l e s ao cap) (i : Nat) : wi.frozen? ⟨w.heap.size + 1, i, none⟩ = false := Cells.frozen h.st i
theorem shut_two {W : World} {g : Nat} {cs : Array Value} (tmps : Array Value) (e : Int) (fn : Func) (hr : fn.results = #[.cell 2 34, .tmp 3]) (h : Cells W g 34 cs) (hs : cs.size = 19) (h2 : tmps.getD 2 undef = .pointer (some ⟨g, 0, none⟩)) (h3 : tmps.getD 3 undef = .int .i64 e) :
    (results fn tmps).run Tryz.prog W = .ok (.tuple #[.agg cs, .int .i64 e]) W := by
  have hl := load_state W g (by rw [rowOf_cells h, hs])
  rw [rowOf_cells h] at hl
  have h2' : tmps[2]?.getD undef = .pointer (some ⟨g, 0, none⟩) := by simpa using h2
  have h3' : tmps[3]?.getD undef = .int .i64 e := by simpa using h3
  simp [results, hr, h2', h3', asAddr, hl]
theorem tst_eq (l : List UInt8) (A B : Got Nat) (P : Got (List (List Nat))) (V : Got Nat) (H : Got (List (List Nat))) (C D : Got Nat) (hA : num 8 l = A) (hB : num 8 A.rest = B) (hP : many (fun _ => pR) 2 0 B.rest = P) (hV : vd 0 P.rest = V)
    (hH : many (fun _ => hR) V.val 0 V.rest = H) (hC : num 2 H.rest = C) (hD : num 2 C.rest = D) :
    tst l = if 8 < V.val then (4, .zero) else if fin (fin (fin (fin (fin (fin (fin 0 A.err) B.err) P.err) V.err) H.err) C.err) D.err ≠ 0 then (fin (fin (fin (fin (fin (fin (fin 0 A.err) B.err) P.err) V.err) H.err) C.err) D.err, .zero)
      else if D.rest ≠ [] ∨ St.good ⟨A.val, B.val, mkP (P.val.getD 0 []), mkP (P.val.getD 1 []), H.val.map mkH, C.val, D.val⟩ = false then (4, .zero)
      else (0, ⟨A.val, B.val, mkP (P.val.getD 0 []), mkP (P.val.getD 1 []), H.val.map mkH, C.val, D.val⟩) := by
  have e1 : many (fun _ => num 8) 2 0 l = ⟨fin A.err B.err, [A.val, B.val], B.rest⟩ := by simp [many, hA, hB, fin_zero]
  have e2 : many (fun _ => num 2) 2 0 H.rest = ⟨fin C.err D.err, [C.val, D.val], D.rest⟩ := by simp [many, hC, hD, fin_zero]
  unfold tst rawR
  simp only [seq, e1, hP, hV, hH, e2, mkS, List.getD_cons_zero, List.getD_cons_succ, fin_fin, fin_of]
theorem grown_drw (w : World) : w.grownBy w.drew none := ⟨rfl, rfl, rfl, Nat.le_refl _, fun _ _ _ => rfl⟩
theorem two_maps {v : List (List Nat)} (h : v.length = 2) : v.map mkP = [mkP (v.getD 0 []), mkP (v.getD 1 [])] := by
  match v, h with
  | [a, b], _ => rfl
theorem many_okM {α : Type} {P : Nat → List UInt8 → Got α} {ok : Nat → α → Prop} (h : ∀ i l, ok i (P i l).val) : ∀ (m i : Nat) (l : List UInt8), okM ok m i (many P m i l).val
  | 0, _, _ => rfl
  | m + 1, i, l => ⟨_, _, rfl, h i l, many_okM h m (i + 1) _⟩
theorem kept_shots {w w' : World} {B n r : Nat} {v : Value} {xs : List Value} (h : w.ownsRow B 98 6 v n xs) (hb : w.grownBy w' (some r)) (hr : r < B) : w'.ownsRow B 98 6 v n xs := kept_row h hb hr
/-- Where Take stands among the scores. -/
def Tsc (w wr : World) (B : Nat) (s : St) (ao : Option Addr) (cap : Nat) (l2 l3 l4 : List UInt8) (e2 e3 e4 : Int) (c d : Nat) (v : Value) : Prop :=
  (v = .int .i64 (0 : Nat) ∧ TK w wr l2 e2 s ao cap) ∨ (v = .int .i64 (1 : Nat) ∧ TK w wr l3 e3 { s with s0 := c } ao cap) ∨ (v = .int .i64 (2 : Nat) ∧ TK w wr l4 e4 { s with s0 := c, s1 := d } ao cap)
theorem grown_setRow (w : World) (g : Nat) (cs : Array Value) : w.grownBy (w.setRow g cs) (some g) := ⟨rfl, rfl, rfl, by simp, fun k hk hn => setRow_other _ _ _ _ (fun e => hn (by rw [e]))⟩
theorem owns_less {w : World} {B B' : Nat} {e : TypeId} {size n : Nat} {v : Value} {xs : List Value} (h : w.ownsRow B e size v n xs) (hB : B' ≤ B) : w.ownsRow B' e size v n xs := by
  refine ⟨h.1, ?_⟩
  rcases h.2 with h | ⟨g, cap, cur, h1, h2, h3⟩
  · exact .inl h
  · exact .inr ⟨g, cap, cur, h1, Nat.le_trans hB h2, h3⟩
theorem two_of {α : Type} {l : List α} (h : l.length = 2) : ∃ a b, l = [a, b] := by
  match l, h with
  | [a, b], _ => exact ⟨a, b, rfl⟩
/-- What Take answers of l. -/
def TkPost (l : List UInt8) (w : World) (E : Ending) (w' : World) : Prop := ∃ ao cap, E = .returned (.tuple #[sv (tst l).2 ao cap, .int .i64 (tst l).1]) ∧ w'.ownsRow w.heap.size 98 6 (.slice ao (tst l).2.ss.length cap) (tst l).2.ss.length (Hall (tst l).2.ss) ∧ w.grownBy w' none
theorem q_bad {l : List UInt8} {w : World} {Q : Ending → World → Prop} (HQ : Hid (∀ E w', TkPost l w E w' → Q E w')) {c : Int} (he : tst l = (c, .zero)) :
    Hid (∀ w', w.grownBy w' none → Q (.returned (.tuple #[.agg (stc .zero none 0), .int .i64 c])) w') := fun w' h =>
  HQ.out _ _ ⟨none, 0, by rw [he], by rw [he]; exact World.ownsRow_nil _ _ _ _, h⟩
theorem q_good {l : List UInt8} {w : World} {Q : Ending → World → Prop} (HQ : Hid (∀ E w', TkPost l w E w' → Q E w')) {s : St} {n : Nat} {sh : List Sh} (he : tst l = (0, s)) (hs : s.ss = sh) (hn : sh.length = n) :
    Hid (∀ w' ao cap, w.grownBy w' none → w'.ownsRow w.heap.size 98 6 (.slice ao n cap) n (Hall sh) → Q (.returned (.tuple #[.agg (stc s ao cap), .int .i64 0])) w') := fun w' ao cap h1 h2 => by
  subst hs hn
  exact HQ.out _ _ ⟨ao, cap, by rw [he], by rw [he]; exact h2, h1⟩
set_option maxHeartbeats 2000000 in
set_option maxRecDepth 20000 in
theorem stTakeQ (l : List UInt8) (w : World) (hl : l.length ≤ 1099511627776) (ht : BTab w) (Q : Ending → World → Prop) (HQ : Hid (∀ E w', TkPost l w E w' → Q E w')) :
    Calls Tryz.prog 126 #[.string (str l)] w Q := by
  have HT := Lib.hid ht
  have hN := rdNew l ((w.alloc (.cells zst 34)).alloc (.cells zst 34)) hl
  have hB0 : Bk ((w.alloc (.cells zst 34)).alloc (.cells zst 34)) w.heap.size .zero none 0 := heap_alloc2_old w _ _
  have hB1 : Bk ((w.alloc (.cells zst 34)).alloc (.cells zst 34)) (w.heap.size + 1) .zero none 0 := heap_alloc2_new w _ _
  have HB0 := Lib.hid hB0
  have HB1 := Lib.hid hB1
  clear hB0 hB1 ht
  go_enter Tryz.func126, Tryz.ntmps126
  go_wp2_with fail
  refine hN.mono ?_
  rintro E w1 ⟨rfl, hr1, hg1, hs1⟩
  have HK1 : Hid (TK w w1 l 0 .zero none 0) := by
    have e2 : ((w.alloc (.cells zst 34)).alloc (.cells zst 34)).heap.size = w.heap.size + 2 := by simp
    rw [e2] at hr1
    exact ⟨hr1, bk_grown HB1.out hg1 (by simp), bk_grown HB0.out hg1 (by simp), (((Below.refl _ w).alloc (Nat.le_refl _) _).alloc (by simp) _).trans ((below_of_grown hg1).mono (by simp; omega))⟩
  clear hr1 hg1 hs1 HB0 HB1 hN hl
  go_wp2_with fail
  refine (rdU64 _ _ _ _ HK1.out.rd).mono ?_
  rintro E w2 ⟨rfl, hr2⟩
  have HK2 := Lib.hid (tk_read HK1.out hr2)
  clear hr2 HK1
  go_wp2_with fail
  refine (rdU64 _ _ _ _ HK2.out.rd).mono ?_
  rintro E w3 ⟨rfl, hr3⟩
  have HK3 := Lib.hid (tk_read HK2.out hr3)
  clear hr3 HK2
  have c0 := HK3.out.st.of 0 _ rfl
  have c1 := HK3.out.st.of 1 _ rfl
  have f0 := st_frozen HK3.out 0
  have f1 := st_frozen HK3.out 1
  generalize hA : num 8 l = A at *
  generalize hB : num 8 A.rest = B at *
  have hA := Lib.hid hA
  have hB := Lib.hid hB
  go_upto_region 4 with fail
  have HK4 : Hid (TK w ((w3.setCell ⟨w.heap.size + 1, 0, none⟩ (.int .u64 (A.val : Int))).setCell ⟨w.heap.size + 1, 1, none⟩ (.int .u64 (B.val : Int))) B.rest (fin (fin 0 A.err) B.err) ⟨A.val, B.val, St.zero.p, St.zero.q, [], 0, 0⟩ none 0) :=
    tk_set (tk_set HK3.out (bk_set0 HK3.out.st _)) (bk_set1 (tk_set HK3.out (bk_set0 HK3.out.st _)).st _)
  clear c0 c1 f0 f1 HK3
  generalize (w3.setCell ⟨w.heap.size + 1, 0, none⟩ (.int .u64 (A.val : Int))).setCell ⟨w.heap.size + 1, 1, none⟩ (.int .u64 (B.val : Int)) = wz at *
  have hlen := many_len (fun _ => pR) 2 0 B.rest
  have HTP := Lib.hid (takePl (w.heap.size + 2) 2 B.rest _ wz.drew (tk_grown HK4.out (grown_drw _)).rd (by decide))
  generalize hP : many (fun _ => pR) 2 0 B.rest = P at *
  have hP := Lib.hid hP
  have HPM := Lib.hid (two_maps hlen)
  clear hlen
  go_cut [] (fun wx => TK w wx P.rest (fin (fin (fin 0 A.err) B.err) P.err) ⟨A.val, B.val, mkP (P.val.getD 0 []), mkP (P.val.getD 1 []), [], 0, 0⟩ none 0)
  case first =>
    go_region_law (first | (go_simp; go_at_call 166; refine HTP.out.mono ?_; rintro E w5 ⟨ao, cap, rfl, ho5, hr5⟩; have k5 := tk_read (tk_grown HK4.out (grown_drw _)) hr5; rw [HPM.out] at ho5; obtain ⟨w6, hc6, hb6, hg6⟩ := copy_two k5.st (mkP (P.val.getD 0 [])) (mkP (P.val.getD 1 [])) ao cap 2 _ 3 ho5; have k6 := Lib.hid (tk_copy k5 hb6 hg6); clear ho5 hr5 k5 hb6 hg6) | (refine step_copy_runI rfl (.tmp 18) (.tmp 20) 187 187 rfl _ _ (by simp [Act.eval]) (by simp [Act.eval]) hc6 ?_))
    go_wp2_with fail
    all_goals go_meet
    all_goals exact k6.out
  case rest =>
  have HK := Lib.hid hcut
  clear hcut HTP HPM HK4
  go_wp2_with fail
  refine (rdVar _ _ _ _ HK.out.rd).mono ?_
  rintro E w6 ⟨rfl, hr6⟩
  have HK6 := Lib.hid (tk_read HK.out hr6)
  clear hr6 HK
  generalize hV : vd 0 P.rest = V at *
  have hV := Lib.hid hV
  by_cases h8 : 8 < V.val
  · have hd8 : decide ((8 : Int) < (V.val : Int)) = true := decide_eq_true (by omega)
    have hst := run_storeState (cs := #[.int .u64 0, .int .u64 0, .int .i32 0, .int .i32 0, .int .i32 0, .int .i32 0, .int .u8 0, .int .u8 0, .int .u8 0, .int .i32 0, .int .i32 0, .int .i32 0, .int .i32 0, .int .u8 0, .int .u8 0, .int .u8 0, .slice none 0 0, .int .u16 0, .int .u16 0]) HK6.out.re rfl rfl (by simp [Value.oneCell'])
    have he := tst_eq l A B P V _ _ _ hA.out hB.out hP.out hV.out rfl rfl rfl
    rw [if_pos h8] at he
    have HE := q_bad HQ he
    clear he
    go_wp2
    have HR := setRow_heap w6 w.heap.size _ (stc .zero none 0) _ _ HK6.out.re
    refine bodyPost_ret (shut_two _ 4 _ Tryz.results126 HR rfl rfl rfl) rfl ?_
    exact HE.out _ (grown_of_below (below_setRow HK6.out.be (Nat.le_refl _) _))
  · have hd8 : decide ((8 : Int) < (V.val : Int)) = false := decide_eq_false (by omega)
    have HTS := Lib.hid (takeSh (w.heap.size + 2) V.val V.rest _ w6 HK6.out.rd (by omega))
    have hlen := many_len (fun _ => hR) V.val 0 V.rest
    have hokH := many_okM (P := fun _ => hR) (ok := fun _ => okM okN 6 0) (fun _ l => many_lt 6 0 l) V.val 0 V.rest
    generalize hH : many (fun _ => hR) V.val 0 V.rest = H at *
    have hH := Lib.hid hH
    obtain ⟨_, hml, hfit⟩ := raws_maps _ _ _ hokH
    have hmm : (H.val.map mkH).length = V.val := by rw [List.length_map, hlen]
    have HFIT := Lib.hid hfit
    have HMM := Lib.hid hmm
    have hok2 := many_okM (P := fun _ => pR) (ok := fun _ => okM okN 7 0) (fun _ l => many_lt 7 0 l) 2 0 B.rest
    rw [hP.out] at hok2
    have HPF : Hid ((mkP (P.val.getD 0 [])).fit ∧ (mkP (P.val.getD 1 [])).fit) := by
      obtain ⟨a, r, e, h1, b, r2, e2, h2, _⟩ := hok2
      rw [e, e2]
      exact ⟨(raw_mkP h1).2, (raw_mkP h2).2⟩
    have HAB : Hid (A.val < 18446744073709551616 ∧ B.val < 18446744073709551616) := by
      have h1 := num_lt 8 l
      have h2 := num_lt 8 A.rest
      rw [hA.out] at h1
      rw [hB.out] at h2
      exact ⟨by simpa using h1, by simpa using h2⟩
    clear hlen hokH hml hfit hmm hok2
    generalize hsh : H.val.map mkH = sh at *
    have hsh := Lib.hid hsh
    go_wp2_with fail
    refine HTS.out.mono ?_
    rintro E w7 ⟨ao, cap, rfl, ho7, hr7⟩
    have HK7 := Lib.hid (tk_read HK6.out hr7)
    have hB2 := tk_size HK6.out
    have HO7 := Lib.hid ho7
    clear hr7 ho7 HTS HK6
    have c16 := HK7.out.st.of 16 _ rfl
    have f16 := st_frozen HK7.out 16
    go_wp2
    have HK8 : Hid (TK w (w7.setCell ⟨w.heap.size + 1, 16, none⟩ (.slice ao V.val cap)) H.rest (fin (fin (fin (fin (fin 0 A.err) B.err) P.err) V.err) H.err) ⟨A.val, B.val, mkP (P.val.getD 0 []), mkP (P.val.getD 1 []), sh, 0, 0⟩ ao cap) :=
      tk_set HK7.out (bk_set16 HK7.out.st sh V.val HMM.out ao cap)
    have HO8 := Lib.hid (ownsRow_setCell_below HO7.out (a := ⟨w.heap.size + 1, 16, none⟩) (by show w.heap.size + 1 < w6.heap.size; omega) (.slice ao V.val cap))
    clear c16 f16 HK7 HO7
    generalize w7.setCell ⟨w.heap.size + 1, 16, none⟩ (.slice ao V.val cap) = w8 at *
    generalize hC : num 2 H.rest = C at *
    have hC := Lib.hid hC
    generalize hD : num 2 C.rest = D at *
    have hD := Lib.hid hD
    go_loopw [31] (fun v wr => Hid (Tsc w wr w6.heap.size ⟨A.val, B.val, mkP (P.val.getD 0 []), mkP (P.val.getD 1 []), sh, 0, 0⟩ ao cap H.rest C.rest D.rest (fin (fin (fin (fin (fin 0 A.err) B.err) P.err) V.err) H.err) (fin (fin (fin (fin (fin (fin 0 A.err) B.err) P.err) V.err) H.err) C.err) (fin (fin (fin (fin (fin (fin (fin 0 A.err) B.err) P.err) V.err) H.err) C.err) D.err) C.val D.val v) ∧ Hid (wr.ownsRow w6.heap.size 98 6 (.slice ao V.val cap) V.val (Hall sh))) (fun v _ => 2 - (intOf v).toNat)
    case atStart => exact ⟨.inl ⟨rfl, HK8.out⟩, HO8⟩
    case round =>
      obtain ⟨HTc, HO9⟩ := hrel
      rcases HTc.out with ⟨rfl, hk⟩ | ⟨rfl, hk⟩ | ⟨rfl, hk⟩
      · have HK := Lib.hid hk
        clear hk
        go_wp2_with fail
        refine (rdU16 _ _ _ _ HK.out.rd).mono ?_
        rintro E w9 ⟨rfl, hr9⟩
        rw [hC.out] at hr9
        rw [hC.out]
        have HKa := Lib.hid (tk_read HK.out hr9)
        have HOa := Lib.hid (kept_shots HO9.out hr9.2 hB2)
        clear hr9
        have c17 := HKa.out.st.of 17 _ rfl
        have f17 := st_frozen HKa.out 17
        go_wp2
        go_roundw
        case rel => exact ⟨.inr (.inl ⟨by go_num, tk_set HKa.out (bk_set17 HKa.out.st _)⟩), ownsRow_setCell_below HOa.out (a := ⟨w.heap.size + 1, 17, none⟩) (by show w.heap.size + 1 < w6.heap.size; omega) _⟩
        case measure => simp [intOf]
      · have HK := Lib.hid hk
        clear hk
        go_wp2_with fail
        refine (rdU16 _ _ _ _ HK.out.rd).mono ?_
        rintro E w9 ⟨rfl, hr9⟩
        rw [hD.out] at hr9
        rw [hD.out]
        have HKa := Lib.hid (tk_read HK.out hr9)
        have HOa := Lib.hid (kept_shots HO9.out hr9.2 hB2)
        clear hr9
        have c18 := HKa.out.st.of 18 _ rfl
        have f18 := st_frozen HKa.out 18
        go_wp2
        go_roundw
        case rel => exact ⟨.inr (.inr ⟨by go_num, tk_set HKa.out (bk_set18 HKa.out.st _)⟩), ownsRow_setCell_below HOa.out (a := ⟨w.heap.size + 1, 18, none⟩) (by show w.heap.size + 1 < w6.heap.size; omega) _⟩
        case measure => simp [intOf]
      · have HK := Lib.hid hk
        have he := tst_eq l A B P V H C D hA.out hB.out hP.out hV.out hH.out hC.out hD.out
        rw [if_neg h8, hsh.out] at he
        clear hk
        go_wp2_with fail
        refine (rdErr _ _ _ _ HK.out.rd).mono ?_
        rintro E w9 ⟨rfl, rfl⟩
        generalize hee : fin (fin (fin (fin (fin (fin (fin 0 A.err) B.err) P.err) V.err) H.err) C.err) D.err = ee at *
        by_cases h0 : ee = 0
        · rw [h0] at hee
          rw [if_neg (not_not_intro h0)] at he
          have hq0 : (ee == 0) = true := beq_iff_eq.2 h0
          clear hee
          by_cases hr0 : D.rest = []
          · have hemp : (str []).toList.isEmpty = true := by rw [ByteArray.toList_eq, str_data]; rfl
            have HFS : Hid (St.fit ⟨A.val, B.val, mkP (P.val.getD 0 []), mkP (P.val.getD 1 []), sh, C.val, D.val⟩) :=
              ⟨HAB.out.1, HAB.out.2, HPF.out.1, HPF.out.2, HFIT.out, by have := num_lt 2 H.rest; rw [hC.out] at this; simpa using this, by have := num_lt 2 C.rest; rw [hD.out] at this; simpa using this⟩
            have HSS := Lib.hid (shs_own HO9.out HMM.out HFIT.out)
            have HSH : Hid (St.ss ⟨A.val, B.val, mkP (P.val.getD 0 []), mkP (P.val.getD 1 []), sh, C.val, D.val⟩ = sh) := rfl
            generalize (⟨A.val, B.val, mkP (P.val.getD 0 []), mkP (P.val.getD 1 []), sh, C.val, D.val⟩ : St) = s at *
            have hrow : rowOf wr (w.heap.size + 1) = stc s ao cap := rowOf_cells HK.out.st
            have hlen : s.ss.length = V.val := by rw [HSH.out]; exact HMM.out
            have hch := check_c s ao cap wr (by rw [HSH.out]; exact HSS.out) HFS.out (btab_below HT.out HK.out.be HT.out.1)
            rw [stc, hlen] at hrow
            rw [sv, stc, hlen] at hch
            cases hgd : s.good
            · rw [if_pos (.inr hgd)] at he
              have HE := q_bad HQ he
              rw [chk_no hgd] at hch
              have HCH := Lib.hid hch
              clear he hgd hch hlen h0
              go_wp2_with fail
              refine (rdRest _ _ _ _ HK.out.rd).mono ?_
              rintro E w10 ⟨rfl, rfl⟩
              go_wp2_with fail
              refine HCH.out.mono ?_
              rintro E w11 ⟨rfl, hb11⟩
              have HKb := Lib.hid (tk_grown HK.out hb11)
              have hst := run_storeState (cs := #[.int .u64 0, .int .u64 0, .int .i32 0, .int .i32 0, .int .i32 0, .int .i32 0, .int .u8 0, .int .u8 0, .int .u8 0, .int .i32 0, .int .i32 0, .int .i32 0, .int .i32 0, .int .u8 0, .int .u8 0, .int .u8 0, .slice none 0 0, .int .u16 0, .int .u16 0]) HKb.out.re rfl rfl (by simp [Value.oneCell'])
              clear hb11 hrow
              go_wp2
              have HR := setRow_heap w11 w.heap.size _ (stc .zero none 0) _ _ HKb.out.re
              refine bodyPost_ret (shut_two _ 4 _ Tryz.results126 HR rfl rfl rfl) rfl ?_
              exact HE.out _ (grown_of_below (below_setRow HKb.out.be (Nat.le_refl _) _))
            · rw [if_neg (by rintro (h | h); exact h hr0; rw [hgd] at h; cases h)] at he
              have HE := q_good HQ he HSH.out HMM.out
              rw [chk_yes hgd] at hch
              have HCH := Lib.hid hch
              clear he hgd hch h0
              go_wp2_with fail
              refine (rdRest _ _ _ _ HK.out.rd).mono ?_
              rintro E w10 ⟨rfl, rfl⟩
              go_wp2_with fail
              refine HCH.out.mono ?_
              rintro E w11 ⟨rfl, hb11⟩
              have HKb := Lib.hid (tk_grown HK.out hb11)
              have HOb := Lib.hid (World.ownsRow.kept HO9.out hb11 (Classical.em _))
              clear hb11 hrow
              have hrow2 : rowOf w11 (w.heap.size + 1) = stc s ao cap := rowOf_cells HKb.out.st
              rw [stc, hlen] at hrow2
              have hst := run_storeState (cs := #[.int .u64 (s.fr : Int), .int .u64 (s.sd : Int), .int .i32 s.p.x, .int .i32 s.p.y, .int .i32 s.p.vx, .int .i32 s.p.vy, .int .u8 (s.p.h : Int), .int .u8 (s.p.c : Int), .int .u8 (s.p.f : Int), .int .i32 s.q.x, .int .i32 s.q.y, .int .i32 s.q.vx, .int .i32 s.q.vy, .int .u8 (s.q.h : Int), .int .u8 (s.q.c : Int), .int .u8 (s.q.f : Int), .slice ao V.val cap, .int .u16 (s.s0 : Int), .int .u16 (s.s1 : Int)]) HKb.out.re rfl rfl (by simp [Value.oneCell'])
              have HLEN := Lib.hid hlen
              clear hlen
              go_wp2
              have HR := setRow_heap w11 w.heap.size _ (#[.int .u64 (s.fr : Int), .int .u64 (s.sd : Int), .int .i32 s.p.x, .int .i32 s.p.y, .int .i32 s.p.vx, .int .i32 s.p.vy, .int .u8 (s.p.h : Int), .int .u8 (s.p.c : Int), .int .u8 (s.p.f : Int), .int .i32 s.q.x, .int .i32 s.q.y, .int .i32 s.q.vx, .int .i32 s.q.vy, .int .u8 (s.q.h : Int), .int .u8 (s.q.c : Int), .int .u8 (s.q.f : Int), .slice ao V.val cap, .int .u16 (s.s0 : Int), .int .u16 (s.s1 : Int)]) _ _ HKb.out.re
              refine bodyPost_ret (shut_two _ 0 _ Tryz.results126 HR rfl rfl rfl) rfl ?_
              have HE2 := HE.out
              simp only [stc, HLEN.out] at HE2
              exact HE2 _ ao cap (grown_of_below (below_setRow HKb.out.be (Nat.le_refl _) _)) (owns_less (kept_row HOb.out (grown_setRow _ _ _) (by omega)) (by omega))
          · rw [if_pos (.inl hr0)] at he
            have HE := q_bad HQ he
            have hemp : (str D.rest).toList.isEmpty = false := by
              rw [ByteArray.toList_eq, str_data]
              cases hdd : D.rest
              · exact absurd hdd hr0
              · rfl
            clear he hr0 h0
            go_wp2_with fail
            refine (rdRest _ _ _ _ HK.out.rd).mono ?_
            rintro E w10 ⟨rfl, rfl⟩
            have hst := run_storeState (cs := #[.int .u64 0, .int .u64 0, .int .i32 0, .int .i32 0, .int .i32 0, .int .i32 0, .int .u8 0, .int .u8 0, .int .u8 0, .int .i32 0, .int .i32 0, .int .i32 0, .int .i32 0, .int .u8 0, .int .u8 0, .int .u8 0, .slice none 0 0, .int .u16 0, .int .u16 0]) HK.out.re rfl rfl (by simp [Value.oneCell'])
            go_wp2
            have HR := setRow_heap wr w.heap.size _ (stc .zero none 0) _ _ HK.out.re
            refine bodyPost_ret (shut_two _ 4 _ Tryz.results126 HR rfl rfl rfl) rfl ?_
            exact HE.out _ (grown_of_below (below_setRow HK.out.be (Nat.le_refl _) _))
        · have hst := run_storeState (cs := #[.int .u64 0, .int .u64 0, .int .i32 0, .int .i32 0, .int .i32 0, .int .i32 0, .int .u8 0, .int .u8 0, .int .u8 0, .int .i32 0, .int .i32 0, .int .i32 0, .int .i32 0, .int .u8 0, .int .u8 0, .int .u8 0, .slice none 0 0, .int .u16 0, .int .u16 0]) HK.out.re rfl rfl (by simp [Value.oneCell'])
          have hq0 : (ee == 0) = false := beq_eq_false_iff_ne.2 h0
          rw [if_pos h0] at he
          have HE := q_bad HQ he
          clear he h0 hee
          go_wp2
          have HR := setRow_heap wr w.heap.size _ (stc .zero none 0) _ _ HK.out.re
          refine bodyPost_ret (shut_two _ ee _ Tryz.results126 HR rfl rfl rfl) rfl ?_
          exact HE.out _ (grown_of_below (below_setRow HK.out.be (Nat.le_refl _) _))
theorem stTake (l : List UInt8) (w : World) (hl : l.length ≤ 1099511627776) (ht : BTab w) : Calls Tryz.prog 126 #[.string (str l)] w (TkPost l w) :=
  stTakeQ l w hl ht _ (fun _ _ h => h)
end Go.Proofs.YtacgmadgkmcmoaaGreatDoor
/- Two players, two shots, two pairs of players, two scores: equal or not, as the program's '==' tells. -/
namespace Go.Proofs.YtacgmadgkmcmoaaGreatDoor
open Go.RowKit
set_option linter.unusedVariables false

theorem pl_dec (a b : Pl) : decide (a = b) = ((a.x == b.x) && ((a.y == b.y) && ((a.vx == b.vx) && ((a.vy == b.vy) && (((a.h : Int) == (b.h : Int)) && (((a.c : Int) == (b.c : Int)) && (((a.f : Int) == (b.f : Int))))))))) := by
  rw [Bool.eq_iff_iff]
  simp [pl_eq]
  intros
  omega
set_option maxHeartbeats 1000000 in
theorem pl_in (d : Nat) (a b : Pl) (w : World) : (Op.equalIn (d + 2) 29 (.agg #[.int .i32 a.x, .int .i32 a.y, .int .i32 a.vx, .int .i32 a.vy, .int .u8 (a.h : Int), .int .u8 (a.c : Int), .int .u8 (a.f : Int)]) (.agg #[.int .i32 b.x, .int .i32 b.y, .int .i32 b.vx, .int .i32 b.vy, .int .u8 (b.h : Int), .int .u8 (b.c : Int), .int .u8 (b.f : Int)])).run Tryz.prog w = .ok (decide (a = b)) w := by
  rw [pl_dec]
  cases h0 : a.x == b.x
  · simp [go_sem, h0]
  cases h1 : a.y == b.y
  · simp [go_sem, h0, h1]
  cases h2 : a.vx == b.vx
  · simp [go_sem, h0, h1, h2]
  cases h3 : a.vy == b.vy
  · simp [go_sem, h0, h1, h2, h3]
  cases h4 : (a.h : Int) == (b.h : Int)
  · simp [go_sem, h0, h1, h2, h3, h4]
  cases h5 : (a.c : Int) == (b.c : Int)
  · simp [go_sem, h0, h1, h2, h3, h4, h5]
  cases h6 : (a.f : Int) == (b.f : Int)
  · simp [go_sem, h0, h1, h2, h3, h4, h5, h6]
  · simp [go_sem, h0, h1, h2, h3, h4, h5, h6]

theorem sh_dec (a b : Sh) : decide (a = b) = ((a.x == b.x) && ((a.y == b.y) && ((a.vx == b.vx) && ((a.vy == b.vy) && (((a.o : Int) == (b.o : Int)) && (((a.l : Int) == (b.l : Int)))))))) := by
  rw [Bool.eq_iff_iff]
  simp [sh_eq]
  intros
  omega
set_option maxHeartbeats 1000000 in
theorem sh_in (d : Nat) (a b : Sh) (w : World) : (Op.equalIn (d + 2) 98 (.agg #[.int .i32 a.x, .int .i32 a.y, .int .i32 a.vx, .int .i32 a.vy, .int .u8 (a.o : Int), .int .u8 (a.l : Int)]) (.agg #[.int .i32 b.x, .int .i32 b.y, .int .i32 b.vx, .int .i32 b.vy, .int .u8 (b.o : Int), .int .u8 (b.l : Int)])).run Tryz.prog w = .ok (decide (a = b)) w := by
  rw [sh_dec]
  cases h0 : a.x == b.x
  · simp [go_sem, h0]
  cases h1 : a.y == b.y
  · simp [go_sem, h0, h1]
  cases h2 : a.vx == b.vx
  · simp [go_sem, h0, h1, h2]
  cases h3 : a.vy == b.vy
  · simp [go_sem, h0, h1, h2, h3]
  cases h4 : (a.o : Int) == (b.o : Int)
  · simp [go_sem, h0, h1, h2, h3, h4]
  cases h5 : (a.l : Int) == (b.l : Int)
  · simp [go_sem, h0, h1, h2, h3, h4, h5]
  · simp [go_sem, h0, h1, h2, h3, h4, h5]

theorem cells_pl : Tryz.prog.cellsOf 29 = 7 := by kernel_rfl
theorem arr_eql (a b c e : Pl) (w : World) : (binOp .eql 30 (.agg #[.int .i32 a.x, .int .i32 a.y, .int .i32 a.vx, .int .i32 a.vy, .int .u8 (a.h : Int), .int .u8 (a.c : Int), .int .u8 (a.f : Int), .int .i32 b.x, .int .i32 b.y, .int .i32 b.vx, .int .i32 b.vy, .int .u8 (b.h : Int), .int .u8 (b.c : Int), .int .u8 (b.f : Int)])
      (.agg #[.int .i32 c.x, .int .i32 c.y, .int .i32 c.vx, .int .i32 c.vy, .int .u8 (c.h : Int), .int .u8 (c.c : Int), .int .u8 (c.f : Int), .int .i32 e.x, .int .i32 e.y, .int .i32 e.vx, .int .i32 e.vy, .int .u8 (e.h : Int), .int .u8 (e.c : Int), .int .u8 (e.f : Int)])).run Tryz.prog w = .ok (.bool (decide (a = c) && decide (b = e))) w := by
  rw [run_eql_struct]
  obtain ⟨i, hi, _⟩ := Option.map_eq_some_iff.1 info_PlSz
  rw [run_equalIn_array w 9999 _ _ Tryz.underlying30 hi, cells_pl]
  have p0 : ∀ (x y : Pl) (W : World), (part 29 #[.int .i32 x.x, .int .i32 x.y, .int .i32 x.vx, .int .i32 x.vy, .int .u8 (x.h : Int), .int .u8 (x.c : Int), .int .u8 (x.f : Int), .int .i32 y.x, .int .i32 y.y, .int .i32 y.vx, .int .i32 y.vy, .int .u8 (y.h : Int), .int .u8 (y.c : Int), .int .u8 (y.f : Int)] (0 * 7)).run Tryz.prog W = .ok (.agg #[.int .i32 x.x, .int .i32 x.y, .int .i32 x.vx, .int .i32 x.vy, .int .u8 (x.h : Int), .int .u8 (x.c : Int), .int .u8 (x.f : Int)]) W := fun x y W => by simp [go_sem]
  have p1 : ∀ (x y : Pl) (W : World), (part 29 #[.int .i32 x.x, .int .i32 x.y, .int .i32 x.vx, .int .i32 x.vy, .int .u8 (x.h : Int), .int .u8 (x.c : Int), .int .u8 (x.f : Int), .int .i32 y.x, .int .i32 y.y, .int .i32 y.vx, .int .i32 y.vy, .int .u8 (y.h : Int), .int .u8 (y.c : Int), .int .u8 (y.f : Int)] (1 * 7)).run Tryz.prog W = .ok (.agg #[.int .i32 y.x, .int .i32 y.y, .int .i32 y.vx, .int .i32 y.vy, .int .u8 (y.h : Int), .int .u8 (y.c : Int), .int .u8 (y.f : Int)]) W := fun x y W => by simp [go_sem]
  have q : ∀ (x y : Pl) (W : World), (Op.equalIn 9999 29 (.agg #[.int .i32 x.x, .int .i32 x.y, .int .i32 x.vx, .int .i32 x.vy, .int .u8 (x.h : Int), .int .u8 (x.c : Int), .int .u8 (x.f : Int)]) (.agg #[.int .i32 y.x, .int .i32 y.y, .int .i32 y.vx, .int .i32 y.vy, .int .u8 (y.h : Int), .int .u8 (y.c : Int), .int .u8 (y.f : Int)])).run Tryz.prog W = .ok (decide (x = y)) W := fun x y W => pl_in 9997 x y W
  simp only [show List.range 2 = [0, 1] from rfl, Op.eqItems, Sem.run_bind, p0, q, Result.andThen_ok]
  cases decide (a = c)
  · simp
  · simp only [Bool.not_true, Bool.false_eq_true, if_false, Sem.run_bind, p1, q, Result.andThen_ok]
    cases decide (b = e) <;> simp
end Go.Proofs.YtacgmadgkmcmoaaGreatDoor
/- Same: whether two states are the same: its contract. -/
namespace Go.Proofs.YtacgmadgkmcmoaaGreatDoor
open Go.RowKit
set_option linter.unusedVariables false

/-- The players of a state read whole. -/
def loadPair (v : Value) : Sem Value := Instr.loadAt 30 v
theorem loadAt_pair (v : Value) : Instr.loadAt 30 v = loadPair v := rfl
theorem info_PairSz : (Tryz.prog.info? 30).map (·.size) = some 14 := by kernel_rfl
theorem run_loadPair (w : World) (g : Nat) (h : (rowOf w g).size = 19) : (loadPair (.pointer (some ⟨g, 2, none⟩))).run Tryz.prog w = .ok (.agg ((rowOf w g).extract 2 16)) w := by
  obtain ⟨cs, t, fr, hg⟩ := rowOf_shape h (by omega)
  have e : rowOf w g = cs := by unfold rowOf; rw [hg]
  rw [e] at h ⊢
  have hl := run_loadCells_list (P := Tryz.prog) w ⟨g, 2, none⟩ ((cs.toList.drop 2).take 14) (fun j v hv => by
    have hadd : (⟨g, 2, none⟩ : Addr).add j = ⟨g, 2 + j, none⟩ := by unfold Addr.add; split <;> simp_all
    rw [hadd, cell_of_row w g (2 + j) cs t fr hg, ← Array.getElem?_toList]
    rw [List.getElem?_take] at hv
    split at hv
    · rwa [List.getElem?_drop] at hv
    · cases hv)
  have hlen : ((cs.toList.drop 2).take 14).length = 14 := by simp [h]
  rw [hlen] at hl
  have he : ((cs.toList.drop 2).take 14).toArray = cs.extract 2 16 := by
    apply Array.ext'
    simp
  rw [he] at hl
  obtain ⟨i, hi, hs⟩ := Option.map_eq_some_iff.1 info_PairSz
  have hagg : (isAgg 30).run Tryz.prog w = .ok true w := by
    unfold isAgg
    rw [Sem.run_bind, run_underlying Tryz.underlying30 w]
    simp
  simp [loadPair, Instr.loadAt, Instr.sureAddr, loadVar, hagg, sizeOf, typeInfo, hi, hs, hl]
theorem ext14 (a0 a1 a2 a3 a4 a5 a6 a7 a8 a9 a10 a11 a12 a13 a14 a15 a16 a17 a18 : Value) : (#[a0, a1, a2, a3, a4, a5, a6, a7, a8, a9, a10, a11, a12, a13, a14, a15, a16, a17, a18] : Array Value).extract 2 16 = #[a2, a3, a4, a5, a6, a7, a8, a9, a10, a11, a12, a13, a14, a15] := rfl
theorem sc_eql (a b c d : Int) (w : World) : (binOp .eql 32 (.agg #[.int .u16 a, .int .u16 b]) (.agg #[.int .u16 c, .int .u16 d])).run Tryz.prog w = .ok (.bool ((a == c) && (b == d))) w := by
  rw [run_eql_struct]
  have h1 : (Tryz.prog.info? 23).map (·.size) = some 1 := by kernel_rfl
  obtain ⟨i, hi, hs⟩ := Option.map_eq_some_iff.1 h1
  rw [run_equalIn_array w 9999 _ _ Tryz.underlying32 hi, show Tryz.prog.cellsOf 23 = 1 by kernel_rfl]
  simp only [show List.range 2 = [0, 1] from rfl, Op.eqItems]
  cases h0 : (a == c) <;> cases h1 : (b == d) <;> simp [go_sem, h0, h1]
theorem sh_neq (a b : Sh) (w : World) : (binOp .neq 98 (.agg #[.int .i32 a.x, .int .i32 a.y, .int .i32 a.vx, .int .i32 a.vy, .int .u8 (a.o : Int), .int .u8 (a.l : Int)]) (.agg #[.int .i32 b.x, .int .i32 b.y, .int .i32 b.vx, .int .i32 b.vy, .int .u8 (b.o : Int), .int .u8 (b.l : Int)])).run Tryz.prog w = .ok (.bool (!decide (a = b))) w := by
  rw [run_neq_struct, sh_in 9998 a b w]
  rfl
section
attribute [local go_sem ↓] sh_neq
set_option maxHeartbeats 1000000 in
set_option maxRecDepth 20000 in
theorem equal_c (ao bo : Option Addr) (c1 c2 : Nat) (l m : List Sh) (w : World) (h1 : Shs w ao l) (h2 : Shs w bo m) (hl : l.length ≤ maxLen) (hm : m.length ≤ maxLen) :
    Calls Tryz.prog 82 #[.slice ao l.length c1, .slice bo m.length c2] w fun E w' => E = .returned (.bool (decide (l = m))) ∧ w.grownBy w' none := by
  simp only [maxLen] at hl hm
  by_cases hlen : l.length = m.length
  · rw [← hlen]
    have HN : Hid (∀ k (h : k < l.length) (h' : k < m.length), ¬ (l[k]'h) = (m[k]'h') → decide (l = m) = false) := fun k h h' e => decide_eq_false (fun x => e (by subst x; rfl))
    have HY : Hid (∀ k, k = l.length → l.take k = m.take k → decide (l = m) = true) := fun k e x => decide_eq_true (by subst e; rwa [List.take_length, hlen, List.take_length] at x)
    have HLEN := Lib.hid hlen
    have HL := Lib.hid hl
    generalize decide (l = m) = ans at *
    have hb0 : ((l.length : Int) == (l.length : Int)) = true := by simp
    clear hlen hm
    go_enter Tryz.func82, Tryz.ntmps82
    go_wp2
    go_loopw [13] (fun v wr => ∃ k : Nat, k ≤ l.length ∧ v = .int .i64 k ∧ Hid (l.take k = m.take k) ∧ Hid (w.grownBy wr none)) (fun v _ => l.length - (intOf v).toNat)
    case atStart => exact ⟨0, by omega, rfl, rfl, grown_refl _ _⟩
    case round =>
      obtain ⟨k, hk, rfl, HE, HW⟩ := hrel
      by_cases hlt : k < l.length
      · have hlt2 : k < m.length := by rw [← HLEN.out]; exact hlt
        obtain ⟨_, pb, po, rfl, hp⟩ := h1 k hlt
        obtain ⟨_, qb, qo, rfl, hq⟩ := h2 k hlt2
        have hw : ∀ {b i : Nat} {v : Value}, w.cell? ⟨b, i, none⟩ = some v → wr.cell? ⟨b, i, none⟩ = some v := fun hv => go_at HW.out hv
        have p0 : wr.cell? ⟨pb, po + k * 6, none⟩ = some (.int .i32 (l[k]'hlt).x) := hw (hp 0 _ rfl)
        have p1 : wr.cell? ⟨pb, po + k * 6 + 1, none⟩ = some (.int .i32 (l[k]'hlt).y) := hw (hp 1 _ rfl)
        have p2 : wr.cell? ⟨pb, po + k * 6 + 2, none⟩ = some (.int .i32 (l[k]'hlt).vx) := hw (hp 2 _ rfl)
        have p3 : wr.cell? ⟨pb, po + k * 6 + 3, none⟩ = some (.int .i32 (l[k]'hlt).vy) := hw (hp 3 _ rfl)
        have p4 : wr.cell? ⟨pb, po + k * 6 + 4, none⟩ = some (.int .u8 ((l[k]'hlt).o : Int)) := hw (hp 4 _ rfl)
        have p5 : wr.cell? ⟨pb, po + k * 6 + 5, none⟩ = some (.int .u8 ((l[k]'hlt).l : Int)) := hw (hp 5 _ rfl)
        have q0 : wr.cell? ⟨qb, qo + k * 6, none⟩ = some (.int .i32 (m[k]'hlt2).x) := hw (hq 0 _ rfl)
        have q1 : wr.cell? ⟨qb, qo + k * 6 + 1, none⟩ = some (.int .i32 (m[k]'hlt2).y) := hw (hq 1 _ rfl)
        have q2 : wr.cell? ⟨qb, qo + k * 6 + 2, none⟩ = some (.int .i32 (m[k]'hlt2).vx) := hw (hq 2 _ rfl)
        have q3 : wr.cell? ⟨qb, qo + k * 6 + 3, none⟩ = some (.int .i32 (m[k]'hlt2).vy) := hw (hq 3 _ rfl)
        have q4 : wr.cell? ⟨qb, qo + k * 6 + 4, none⟩ = some (.int .u8 ((m[k]'hlt2).o : Int)) := hw (hq 4 _ rfl)
        have q5 : wr.cell? ⟨qb, qo + k * 6 + 5, none⟩ = some (.int .u8 ((m[k]'hlt2).l : Int)) := hw (hq 5 _ rfl)
        have HN2 := Lib.hid (HN.out k hlt hlt2)
        have HS : Hid ((l[k]'hlt) = (m[k]'hlt2) → l.take (k + 1) = m.take (k + 1)) := fun e => by
          rw [List.take_succ_eq_append_getElem hlt, List.take_succ_eq_append_getElem hlt2, HE.out, e]
        clear hp hq hw h1 h2 HE
        generalize (l[k]'hlt) = x at *
        generalize (m[k]'hlt2) = y at *
        have hki : (k : Int) < (l.length : Int) := by omega
        by_cases hxy : x = y
        · have HX := Lib.hid (HS.out hxy)
          have hd : decide (x = y) = true := decide_eq_true hxy
          clear HS HN2
          go_wp2_with fail
          go_quiet (fail)
          go_wp2
          go_roundw
          case rel => exact ⟨k + 1, by omega, by go_num, HX, HW.out.trans (grown_drewN _ _ _)⟩
          case measure => simp [intOf]; omega
        · obtain rfl := HN2.out hxy
          have hd : decide (x = y) = false := decide_eq_false hxy
          clear HS HN2
          go_wp2_with fail
          go_quiet (fail)
          go_wp2
          go_ret
          exact ⟨rfl, HW.out.trans (grown_drewN _ _ _)⟩
      · obtain rfl := HY.out k (by omega) HE.out
        go_wp2
        go_ret
        exact ⟨rfl, HW.out⟩
  · rw [show decide (l = m) = false from decide_eq_false (fun e => hlen (by rw [e]))]
    have hb0 : ((l.length : Int) == (m.length : Int)) = false := beq_eq_false_iff_ne.2 (by omega)
    go_enter Tryz.func82, Tryz.ntmps82
    go_wp2
    go_ret
    exact ⟨rfl, grown_refl _ _⟩
end
section
attribute [local go_sem ↓] loadAt_pair arr_eql sc_eql
attribute [local go_sem] run_loadPair rowOf_new rowOf_old rowOf_drew rowOf_drewN ext14
theorem same_and (a b : St) : same a b = (((a.fr : Int) == (b.fr : Int)) && (((a.sd : Int) == (b.sd : Int)) && ((decide (a.p = b.p) && decide (a.q = b.q)) && (decide (a.ss = b.ss) && (((a.s0 : Int) == (b.s0 : Int)) && ((a.s1 : Int) == (b.s1 : Int))))))) := by
  unfold same
  rw [Bool.eq_iff_iff]
  simp [st_eq]
  intros
  constructor
  · rintro ⟨a1, a2, a3, a4, a5, a6, a7⟩; exact ⟨by omega, by omega, ⟨a3, a4⟩, a5, by omega, by omega⟩
  · rintro ⟨a1, a2, ⟨a3, a4⟩, a5, a6, a7⟩; exact ⟨by omega, by omega, a3, a4, a5, by omega, by omega⟩
set_option maxHeartbeats 1000000 in
set_option maxRecDepth 20000 in
theorem same_c (a b : St) (ao bo : Option Addr) (c1 c2 : Nat) (w : World) (h1 : Shs w ao a.ss) (h2 : Shs w bo b.ss) (hl : a.ss.length ≤ maxLen) (hm : b.ss.length ≤ maxLen) :
    Calls Tryz.prog 35 #[sv a ao c1, sv b bo c2] w fun E w' => E = .returned (.bool (same a b)) ∧ w.grownBy w' none := by
  have hg : w.grownBy ((w.alloc (.cells (stc a ao c1) 34)).alloc (.cells (stc b bo c2) 34)) none := (grown_alloc _ _).trans (grown_alloc _ _)
  have HC := Lib.hid (equal_c ao bo c1 c2 a.ss b.ss _ (Shs_grown h1 hg (by simp)) (Shs_grown h2 hg (by simp)) hl hm)
  have hBa : Bk ((w.alloc (.cells (stc a ao c1) 34)).alloc (.cells (stc b bo c2) 34)) w.heap.size a ao c1 := heap_alloc2_old w _ _
  have hBb : Bk ((w.alloc (.cells (stc a ao c1) 34)).alloc (.cells (stc b bo c2) 34)) (w.heap.size + 1) b bo c2 := heap_alloc2_new w _ _
  have HBa := Lib.hid hBa
  have HBb := Lib.hid hBb
  have HG := Lib.hid hg
  rw [same_and]
  clear hg hBa hBb h1 h2
  generalize decide (a.ss = b.ss) = e3 at *
  cases h0 : ((a.fr : Int) == (b.fr : Int))
  · go_enter Tryz.func35, Tryz.ntmps35
    go_wp2
    go_ret
    exact ⟨rfl, HG.out⟩
  · cases h1 : ((a.sd : Int) == (b.sd : Int))
    · go_enter Tryz.func35, Tryz.ntmps35
      go_wp2
      go_ret
      exact ⟨rfl, HG.out⟩
    · cases h2 : (decide (a.p = b.p) && decide (a.q = b.q))
      · go_enter Tryz.func35, Tryz.ntmps35
        go_wp2
        go_ret
        exact ⟨rfl, HG.out⟩
      · go_enter Tryz.func35, Tryz.ntmps35
        go_wp2_with fail
        refine HC.out.mono ?_
        rintro E w1 ⟨rfl, hb1⟩
        have a17 := (bk_grown HBa.out hb1 (by simp)).of 17 _ rfl
        have a18 := (bk_grown HBa.out hb1 (by simp)).of 18 _ rfl
        have b17 := (bk_grown HBb.out hb1 (by simp)).of 17 _ rfl
        have b18 := (bk_grown HBb.out hb1 (by simp)).of 18 _ rfl
        have HG1 := Lib.hid (HG.out.trans hb1)
        clear hb1
        cases e3
        · go_wp2
          go_ret
          exact ⟨rfl, HG1.out⟩
        · go_wp2
          go_ret
          exact ⟨by simp, HG1.out⟩
end
end Go.Proofs.YtacgmadgkmcmoaaGreatDoor
/- Start, and the statements' own first state: contracts. -/
namespace Go.Proofs.YtacgmadgkmcmoaaGreatDoor
open Go.RowKit
set_option linter.unusedVariables false

/-- A block of a state's cells lies there, none of them frozen. -/
def okRow (w : World) (g : Nat) : Prop := ∃ cs t, Cells w g t cs ∧ cs.size = 19
theorem okRow_new (w : World) (g : Nat) (cs : Array Value) (t : TypeId) (h : g = w.heap.size) (hc : cs.size = 19) : okRow (w.alloc (.cells cs t)) g := by
  subst h; exact ⟨cs, t, Cells.made w t cs, hc⟩
theorem okRow_old (w : World) (g : Nat) (o : Obj) (h : okRow w g) : okRow (w.alloc o) g := by
  obtain ⟨cs, t, hc, hs⟩ := h; exact ⟨cs, t, hc.alloc o, hs⟩
theorem okRow_bk {w : World} {g : Nat} {s : St} {ao : Option Addr} {cap : Nat} (h : Bk w g s ao cap) : okRow w g := ⟨_, _, h, rfl⟩
theorem run_storeOk (w : World) (g : Nat) (cs : Array Value) (h : okRow w g) (hc : cs.size = 19) (h1 : cs.toList.all Value.oneCell' = true) :
    (storeState (.pointer (some ⟨g, 0, none⟩)) (.agg cs)).run Tryz.prog w = .ok () (w.setRow g cs) := by
  obtain ⟨old, t, ho, hs⟩ := h
  exact run_storeState ho hs hc (fun v hv => List.all_eq_true.1 h1 v hv)
theorem bk_setRow {w : World} {g : Nat} {old : Array Value} (h : Cells w g 34 old) (s : St) (ao : Option Addr) (cap : Nat) : Bk (w.setRow g (stc s ao cap)) g s ao cap := setRow_heap w g old _ _ _ h
theorem cells_far {w : World} {g g' : Nat} {t : TypeId} {cs : Array Value} (h : Cells w g t cs) (hne : g ≠ g') (cs' : Array Value) : Cells (w.setRow g' cs') g t cs := (setRow_other _ _ _ _ hne).trans h
def start (n : Nat) : St := ⟨0, n, ⟨8192, 14336, 0, 0, 100, 0, 0⟩, ⟨53248, 14336, 0, 0, 100, 0, 1⟩, [], 0, 0⟩
theorem ret_state {W : World} {g : Nat} {cs : Array Value} (tmps : Array Value) (p : Tmp) (fn : Func) (hr : fn.results = #[.cell p 34]) (h : Cells W g 34 cs) (hs : cs.size = 19) (h2 : tmps.getD p undef = .pointer (some ⟨g, 0, none⟩)) :
    (results fn tmps).run Tryz.prog W = .ok (.agg cs) W := results_cell_row hr tmps W g _ cs (0, 0) _ h2 h Tryz.underlying34 rfl (by rw [hs]; exact info_StSz)
attribute [local go_sem ↓] loadAt_state storeAt_state
attribute [local go_sem] run_loadState rowOf_new rowOf_old rowOf_drew rowOf_drewN run_storeOk okRow_new okRow_old Value.oneCell'
set_option maxHeartbeats 1000000 in
set_option maxRecDepth 20000 in
theorem start_c (n : Nat) (w : World) : Calls Tryz.prog 79 #[.int .u64 (n : Int)] w fun E w' => E = .returned (sv (start n) none 0) ∧ w.grownBy w' none := by
  have hok : ∀ A B : Obj, okRow (((w.alloc (.cells #[.int .u64 0, .int .u64 0, .int .i32 0, .int .i32 0, .int .i32 0, .int .i32 0, .int .u8 0, .int .u8 0, .int .u8 0, .int .i32 0, .int .i32 0, .int .i32 0, .int .i32 0, .int .u8 0, .int .u8 0, .int .u8 0, .slice none 0 0, .int .u16 0, .int .u16 0] 34)).alloc A).alloc B) w.heap.size := fun A B => okRow_old _ _ _ (okRow_old _ _ _ (okRow_new _ _ _ _ rfl rfl))
  go_enter Tryz.func79, Tryz.ntmps79
  go_wp2
  have hc : ∀ A B : Obj, Cells (((w.alloc (.cells #[.int .u64 0, .int .u64 0, .int .i32 0, .int .i32 0, .int .i32 0, .int .i32 0, .int .u8 0, .int .u8 0, .int .u8 0, .int .i32 0, .int .i32 0, .int .i32 0, .int .i32 0, .int .u8 0, .int .u8 0, .int .u8 0, .slice none 0 0, .int .u16 0, .int .u16 0] 34)).alloc A).alloc B) w.heap.size 34 #[.int .u64 0, .int .u64 0, .int .i32 0, .int .i32 0, .int .i32 0, .int .i32 0, .int .u8 0, .int .u8 0, .int .u8 0, .int .i32 0, .int .i32 0, .int .i32 0, .int .i32 0, .int .u8 0, .int .u8 0, .int .u8 0, .slice none 0 0, .int .u16 0, .int .u16 0] := fun A B => ((Cells.made w _ _).alloc A).alloc B
  refine bodyPost_ret (v := sv (start n) none 0) ?_ rfl ?_
  · exact ret_state _ 2 _ Tryz.results79 (setRow_heap _ _ _ _ _ _ (hc _ _)) rfl rfl
  exact ⟨rfl, grown_of_below (below_setRow ((((Below.refl _ w).alloc (Nat.le_refl _) _).alloc (by simp) _).alloc (by simp; omega) _) (Nat.le_refl _) _)⟩
/-- The statements' own first state: that of 1, with a shot. -/
def shot1 : Sh := ⟨5, 6, -2048, 2048, 1, 40⟩
def frst : St := { start 1 with ss := [shot1] }
theorem fit_shot1 : shot1.fit := ⟨⟨by decide, by decide⟩, ⟨by decide, by decide⟩, ⟨by decide, by decide⟩, ⟨by decide, by decide⟩, by decide, by decide⟩
theorem shs_one {w : World} {g : Nat} (h : Cells w g 98 #[.int .i32 5, .int .i32 6, .int .i32 (-2048), .int .i32 2048, .int .u8 1, .int .u8 40]) : Shs w (some ⟨g, 0, none⟩) [shot1] := fun k hk => by
  obtain rfl : k = 0 := by simp at hk; omega
  refine ⟨fit_shot1, g, 0, rfl, fun i v hv => ?_⟩
  rw [show 0 + 0 * 6 + i = i by omega, h.cell]
  match i, hv with
  | 0, hv | 1, hv | 2, hv | 3, hv | 4, hv | 5, hv => exact hv
  | i + 6, hv => simp at hv
end Go.Proofs.YtacgmadgkmcmoaaGreatDoor
/- The statements' own fails and works: contracts. -/
namespace Go.Proofs.YtacgmadgkmcmoaaGreatDoor
open Go.RowKit
set_option linter.unusedVariables false

theorem shs_nil (w : World) (ao : Option Addr) : Shs w ao [] := fun k h => by simp at h
theorem rowOf_setRow (w : World) (g : Nat) (cs : Array Value) (h : okRow w g) : rowOf (w.setRow g cs) g = cs := by
  obtain ⟨old, t, ho, _⟩ := h
  exact rowOf_cells (setRow_heap w g old cs t _ ho)
theorem okRow_setRow (w : World) (g : Nat) (cs : Array Value) (h : okRow w g) (hs : cs.size = 19) : okRow (w.setRow g cs) g := by
  obtain ⟨old, t, ho, _⟩ := h
  exact ⟨cs, t, setRow_heap w g old cs t _ ho, hs⟩
theorem rowOf_own (w : World) (z cs : Array Value) (t : TypeId) : rowOf ((w.alloc (.cells z t)).setRow w.heap.size cs) w.heap.size = cs := rowOf_cells (setRow_heap _ _ z cs t _ (Cells.made w t z))
attribute [local go_sem ↓] loadAt_state storeAt_state
attribute [local go_sem] run_loadState rowOf_new rowOf_old rowOf_drew rowOf_drewN run_storeOk okRow_new okRow_old Value.oneCell' rowOf_own
theorem grown_own (w : World) (o : Obj) (cs : Array Value) : w.grownBy ((w.alloc o).setRow w.heap.size cs) none :=
  grown_of_below (below_setRow ((Below.refl _ w).alloc (Nat.le_refl _) _) (Nat.le_refl _) _)
theorem good_frst : frst.good = true := by decide
theorem fit_frst : frst.fit := ⟨by decide, by decide, ⟨⟨by decide, by decide⟩, ⟨by decide, by decide⟩, ⟨by decide, by decide⟩, ⟨by decide, by decide⟩, by decide, by decide, by decide⟩, ⟨⟨by decide, by decide⟩, ⟨by decide, by decide⟩, ⟨by decide, by decide⟩, ⟨by decide, by decide⟩, by decide, by decide, by decide⟩, fun x hx => by
  obtain rfl : x = shot1 := by simpa [frst] using hx
  exact fit_shot1, by decide, by decide⟩
theorem good_start1 : (start 1).good = true := by decide
theorem fit_start0 : (start 0).fit := ⟨by decide, by decide, ⟨⟨by decide, by decide⟩, ⟨by decide, by decide⟩, ⟨by decide, by decide⟩, ⟨by decide, by decide⟩, by decide, by decide, by decide⟩, ⟨⟨by decide, by decide⟩, ⟨by decide, by decide⟩, ⟨by decide, by decide⟩, ⟨by decide, by decide⟩, by decide, by decide, by decide⟩, fun x hx => by simp [start] at hx, by decide, by decide⟩
theorem fit_start {n : Nat} (hn : n < 18446744073709551616) : (start n).fit := ⟨fit_start0.1, hn, fit_start0.2.2⟩
theorem len_frst : (ste frst).length = 77 := by
  have h1 := pe_len frst.p
  have h2 := pe_len frst.q
  have h3 := hes_len frst.ss
  have h4 : (vr 1).length = 1 := rfl
  have h5 : frst.ss.length = 1 := rfl
  simp only [ste, List.length_append, le_length, h1, h2, h3, h5, h4]
theorem len_start : (ste (start 1)).length = 59 := by
  have h1 := pe_len (start 1).p
  have h2 := pe_len (start 1).q
  have h3 := hes_len (start 1).ss
  have h4 : (vr 0).length = 1 := rfl
  have h5 : (start 1).ss.length = 0 := rfl
  simp only [ste, List.length_append, le_length, h1, h2, h3, h5, h4]
theorem tst_nil : tst [] = (10, .zero) := by
  have := tst_cut (fit_start (n := 1) (by decide)) good_start1 [] (ste (start 1)) rfl (fun e => by have := len_start; rw [e] at this; simp at this)
  exact this
theorem rowOf_on {B : Nat} {wd : World} {g : Nat} {cs : Array Value} (h : rowOf wd g = cs) (hg : g < B) : ∀ w', On B wd w' → rowOf w' g = cs := fun w' o => by
  unfold rowOf at h ⊢; rw [Below.block o g hg]; exact h
theorem same_self (a : St) (ao bo : Option Addr) (c1 c2 : Nat) (w : World) (h1 : Shs w ao a.ss) (h2 : Shs w bo a.ss) (hl : a.ss.length ≤ maxLen) :
    Calls Tryz.prog 35 #[sv a ao c1, sv a bo c2] w fun E w' => E = .returned (.bool true) ∧ w.grownBy w' none :=
  (same_c a a ao bo c1 c2 w h1 h2 hl hl).mono fun E w' ⟨e, h⟩ => ⟨by rw [e]; simp [same], h⟩
theorem put_good (a : St) (ao : Option Addr) (cap : Nat) (w : World) (h : Shs w ao a.ss) (hf : a.fit) (hg : a.good = true) (ht : BTab w) :
    Calls Tryz.prog 95 #[sv a ao cap] w fun E w' => E = .returned (.string (str (ste a))) ∧ w.grownBy w' none :=
  (put_c a ao cap w h hf ht).mono fun E w' ⟨e, h⟩ => ⟨by rw [e, sput_yes hg], h⟩
theorem take_good (a : St) (w : World) (hf : a.fit) (hg : a.good = true) (hl : (ste a).length ≤ 1099511627776) (ht : BTab w) :
    Calls Tryz.prog 126 #[.string (str (ste a))] w fun E w' => ∃ ao cap, E = .returned (.tuple #[sv a ao cap, .int .i64 0]) ∧ Shs w' ao a.ss ∧ w.grownBy w' none :=
  (stTake _ w hl ht).mono fun E w' ⟨ao, cap, e, ho, hb⟩ => by
    rw [tst_back hf hg] at e ho
    exact ⟨ao, cap, e, shs_own ho rfl hf.2.2.2.2.1, hb⟩
end Go.Proofs.YtacgmadgkmcmoaaGreatDoor
/- A state as an argument of a statement: taken apart. -/
namespace Go.Proofs.YtacgmadgkmcmoaaGreatDoor
open Go.ChangeShapes Go.WideShapes Go.RowKit Go.Deep
set_option linter.unusedVariables false

theorem arr19 (cs : Array Value) (h : cs.size = 19) : ∃ c0 c1 c2 c3 c4 c5 c6 c7 c8 c9 c10 c11 c12 c13 c14 c15 c16 c17 c18, cs = #[c0, c1, c2, c3, c4, c5, c6, c7, c8, c9, c10, c11, c12, c13, c14, c15, c16, c17, c18] := by
  obtain ⟨l⟩ := cs
  match l, h with
  | [c0, c1, c2, c3, c4, c5, c6, c7, c8, c9, c10, c11, c12, c13, c14, c15, c16, c17, c18], _ => exact ⟨c0, c1, c2, c3, c4, c5, c6, c7, c8, c9, c10, c11, c12, c13, c14, c15, c16, c17, c18, rfl⟩
theorem addr_flat {w : World} {a : Addr} {v : Value} (h : w.cell? (a.add 0) = some v) : ∃ b o, a = ⟨b, o, none⟩ := by
  obtain ⟨b, off, spot⟩ := a
  have hspot : spot = none := by simpa [Addr.add] using World.cell?_spot h
  subst hspot
  exact ⟨b, off, rfl⟩
section
variable {H : Type} {enc : TypeId × Value → H} {P : Program} {w : World} {base : Nat} {spare : Nat → Bool} {held : Bool}
theorem trod_field {t : TypeId} {fs : Array Field} {fuel : Nat} {cs : List Value} {x : DataW H × List MemPlace} (ht : P.underlying t = some (.struct fs)) (h : DataW.trod enc P w base spare held fuel t cs = some x) {i : Nat} {f : Field} (hi : fs[i]? = some f) :
    ∃ n y, DataW.trod enc P w base spare held n f.type ((cs.drop f.offset).take (P.cellsOf f.type)) = some y := by
  obtain ⟨xs, n, _, _, _, hlen, hf⟩ := DataW.trod_struct ht h
  obtain ⟨hlt, _⟩ := Array.getElem?_eq_some_iff.1 hi
  have := hf i f hi
  rw [List.getElem?_eq_getElem (by omega)] at this
  exact ⟨n, _, this⟩
theorem trod_elem {t e : TypeId} {k : Nat} {fuel : Nat} {cs : List Value} {x : DataW H × List MemPlace} (ht : P.underlying t = some (.array k e)) (h : DataW.trod enc P w base spare held fuel t cs = some x) {i : Nat} (hi : i < k) :
    ∃ n y, DataW.trod enc P w base spare held n e ((cs.drop (i * P.cellsOf e)).take (P.cellsOf e)) = some y := by
  obtain ⟨xs, n, _, _, _, hlen, hf⟩ := DataW.trod_array ht h
  have := hf i hi
  rw [List.getElem?_eq_getElem (by omega)] at this
  exact ⟨n, _, this⟩
end
section
variable {H : Type} {enc : TypeId × Value → H} {w : World} {base : Nat} {spare : Nat → Bool} {held : Bool}
theorem open_player {n : Nat} {c0 c1 c2 c3 c4 c5 c6 : Value} {y : DataW H × List MemPlace} (h : DataW.trod enc Tryz.prog w base spare held n 29 [c0, c1, c2, c3, c4, c5, c6] = some y) :
    ∃ p : Pl, p.fit ∧ c0 = .int .i32 p.x ∧ c1 = .int .i32 p.y ∧ c2 = .int .i32 p.vx ∧ c3 = .int .i32 p.vy ∧ c4 = .int .u8 (p.h : Int) ∧ c5 = .int .u8 (p.c : Int) ∧ c6 = .int .u8 (p.f : Int) := by
  have qi : Tryz.prog.cellsOf 21 = 1 := by kernel_rfl
  have qb : Tryz.prog.cellsOf 5 = 1 := by kernel_rfl
  obtain ⟨n0, y0, h0⟩ := trod_field Tryz.underlying29 h (i := 0) rfl
  obtain ⟨z0, e0, _, w0⟩ := DataW.trod_int Tryz.underlying21 h0
  simp [qi] at e0
  subst e0
  obtain ⟨n1, y1, h1⟩ := trod_field Tryz.underlying29 h (i := 1) rfl
  obtain ⟨z1, e1, _, w1⟩ := DataW.trod_int Tryz.underlying21 h1
  simp [qi] at e1
  subst e1
  obtain ⟨n2, y2, h2⟩ := trod_field Tryz.underlying29 h (i := 2) rfl
  obtain ⟨z2, e2, _, w2⟩ := DataW.trod_int Tryz.underlying21 h2
  simp [qi] at e2
  subst e2
  obtain ⟨n3, y3, h3⟩ := trod_field Tryz.underlying29 h (i := 3) rfl
  obtain ⟨z3, e3, _, w3⟩ := DataW.trod_int Tryz.underlying21 h3
  simp [qi] at e3
  subst e3
  obtain ⟨n4, y4, h4⟩ := trod_field Tryz.underlying29 h (i := 4) rfl
  obtain ⟨z4, e4, _, w4⟩ := DataW.trod_int Tryz.underlying5 h4
  simp [qb] at e4
  subst e4
  obtain ⟨n5, y5, h5⟩ := trod_field Tryz.underlying29 h (i := 5) rfl
  obtain ⟨z5, e5, _, w5⟩ := DataW.trod_int Tryz.underlying5 h5
  simp [qb] at e5
  subst e5
  obtain ⟨n6, y6, h6⟩ := trod_field Tryz.underlying29 h (i := 6) rfl
  obtain ⟨z6, e6, _, w6⟩ := DataW.trod_int Tryz.underlying5 h6
  simp [qb] at e6
  subst e6
  have b0 := bounds_i32 w0
  have b1 := bounds_i32 w1
  have b2 := bounds_i32 w2
  have b3 := bounds_i32 w3
  have b4 := bounds_u8 w4
  have b5 := bounds_u8 w5
  have b6 := bounds_u8 w6
  refine ⟨⟨z0, z1, z2, z3, z4.toNat, z5.toNat, z6.toNat⟩, ⟨b0, b1, b2, b3, (by show z4.toNat < 256; omega), (by show z5.toNat < 256; omega), (by show z6.toNat < 256; omega)⟩, rfl, rfl, rfl, rfl, (by show Value.int .u8 z4 = .int .u8 (z4.toNat : Int); rw [Int.toNat_of_nonneg (by omega)]), (by show Value.int .u8 z5 = .int .u8 (z5.toNat : Int); rw [Int.toNat_of_nonneg (by omega)]), (by show Value.int .u8 z6 = .int .u8 (z6.toNat : Int); rw [Int.toNat_of_nonneg (by omega)])⟩
theorem open_shot {n : Nat} {c0 c1 c2 c3 c4 c5 : Value} {y : DataW H × List MemPlace} (h : DataW.trod enc Tryz.prog w base spare held n 98 [c0, c1, c2, c3, c4, c5] = some y) :
    ∃ p : Sh, p.fit ∧ c0 = .int .i32 p.x ∧ c1 = .int .i32 p.y ∧ c2 = .int .i32 p.vx ∧ c3 = .int .i32 p.vy ∧ c4 = .int .u8 (p.o : Int) ∧ c5 = .int .u8 (p.l : Int) := by
  have qi : Tryz.prog.cellsOf 21 = 1 := by kernel_rfl
  have qb : Tryz.prog.cellsOf 5 = 1 := by kernel_rfl
  obtain ⟨n0, y0, h0⟩ := trod_field Tryz.underlying98 h (i := 0) rfl
  obtain ⟨z0, e0, _, w0⟩ := DataW.trod_int Tryz.underlying21 h0
  simp [qi] at e0
  subst e0
  obtain ⟨n1, y1, h1⟩ := trod_field Tryz.underlying98 h (i := 1) rfl
  obtain ⟨z1, e1, _, w1⟩ := DataW.trod_int Tryz.underlying21 h1
  simp [qi] at e1
  subst e1
  obtain ⟨n2, y2, h2⟩ := trod_field Tryz.underlying98 h (i := 2) rfl
  obtain ⟨z2, e2, _, w2⟩ := DataW.trod_int Tryz.underlying21 h2
  simp [qi] at e2
  subst e2
  obtain ⟨n3, y3, h3⟩ := trod_field Tryz.underlying98 h (i := 3) rfl
  obtain ⟨z3, e3, _, w3⟩ := DataW.trod_int Tryz.underlying21 h3
  simp [qi] at e3
  subst e3
  obtain ⟨n4, y4, h4⟩ := trod_field Tryz.underlying98 h (i := 4) rfl
  obtain ⟨z4, e4, _, w4⟩ := DataW.trod_int Tryz.underlying5 h4
  simp [qb] at e4
  subst e4
  obtain ⟨n5, y5, h5⟩ := trod_field Tryz.underlying98 h (i := 5) rfl
  obtain ⟨z5, e5, _, w5⟩ := DataW.trod_int Tryz.underlying5 h5
  simp [qb] at e5
  subst e5
  have b0 := bounds_i32 w0
  have b1 := bounds_i32 w1
  have b2 := bounds_i32 w2
  have b3 := bounds_i32 w3
  have b4 := bounds_u8 w4
  have b5 := bounds_u8 w5
  refine ⟨⟨z0, z1, z2, z3, z4.toNat, z5.toNat⟩, ⟨b0, b1, b2, b3, (by show z4.toNat < 256; omega), (by show z5.toNat < 256; omega)⟩, rfl, rfl, rfl, rfl, (by show Value.int .u8 z4 = .int .u8 (z4.toNat : Int); rw [Int.toNat_of_nonneg (by omega)]), (by show Value.int .u8 z5 = .int .u8 (z5.toNat : Int); rw [Int.toNat_of_nonneg (by omega)])⟩
set_option maxRecDepth 20000 in
theorem open_shots {n : Nat} {cs : List Value} {y : DataW H × List MemPlace} (h : DataW.trod enc Tryz.prog w base spare held n 31 cs = some y) :
    ∃ (l : List Sh) (ao : Option Addr) (cap : Nat), cs = [.slice ao l.length cap] ∧ l.length ≤ maxLen ∧ (ao = none → cap = 0) ∧ Shs w ao l := by
  rcases open_slice Tryz.underlying31 h with ⟨hcs, _⟩ | ⟨ad, len, cap, m, n, D, Pl, hcs, _, hl, hm, hmm, _, hel⟩
  · exact ⟨[], none, 0, hcs, by simp [maxLen], fun _ => rfl, fun k h => by simp at h⟩
  · have hlm : len ≤ m := by rw [hmm]; split <;> omega
    have hC : Tryz.prog.cellsOf 98 = 6 := by kernel_rfl
    have plain : 0 < len → ∃ b o, ad = ⟨b, o, none⟩ := fun h0 => by
      obtain ⟨cs, hcells, _⟩ := hel 0 (by omega)
      rw [hC] at hcells
      obtain ⟨_, hcl, hat⟩ := World.cells?_some hcells
      have h1 := hat 0 (by omega)
      rw [Deep.add_add, List.getElem?_eq_getElem (by omega)] at h1
      exact addr_flat h1
    have one : ∀ i, i < len → ∃ x : Sh, x.fit ∧ ∃ b o, some ad = some ⟨b, o, none⟩ ∧ ∀ j v, [Value.int .i32 x.x, .int .i32 x.y, .int .i32 x.vx, .int .i32 x.vy, .int .u8 (x.o : Int), .int .u8 (x.l : Int)][j]? = some v → w.cell? ⟨b, o + i * 6 + j, none⟩ = some v := by
      intro i hi
      obtain ⟨cs, hcells, ht⟩ := hel i (by omega)
      rw [hC] at hcells
      obtain ⟨_, hcl, hat⟩ := World.cells?_some hcells
      match cs, hcl with
      | [c0, c1, c2, c3, c4, c5], _ =>
        obtain ⟨x, hx, rfl, rfl, rfl, rfl, rfl, rfl⟩ := open_shot ht
        obtain ⟨b, o, rfl⟩ := plain (by omega)
        refine ⟨x, hx, b, o, rfl, fun j v hv => ?_⟩
        have hj : j < 6 := by
          rcases Nat.lt_or_ge j 6 with h1 | h1
          · exact h1
          · rw [List.getElem?_eq_none (by simpa using h1)] at hv; cases hv
        have := hat j (by omega)
        rw [Deep.add_add, Go.WideShapes.add_plain, hv, ← Nat.add_assoc] at this
        exact this
    refine ⟨(List.range len).pmap (fun i hi => Classical.choose (one i hi)) (fun i hi => List.mem_range.1 hi), some ad, cap, ?_, ?_, (fun e => by cases e), fun i hi => ?_⟩
    · rw [hcs]; simp
    · simp; omega
    · have hi2 : i < len := by simpa using hi
      have hx : ((List.range len).pmap (fun i hi => Classical.choose (one i hi)) (fun i hi => List.mem_range.1 hi))[i]'hi = Classical.choose (one i hi2) := by simp
      rw [hx]
      exact Classical.choose_spec (one i hi2)
set_option maxRecDepth 20000 in
/-- A state, by value: opened. -/
theorem open_state {r : Reach} {b0 : Nat} {v : Value} {d : DataW H} {p : List MemPlace} (hv : Value.okWide Tryz.prog w r b0 34 v) (h : DataW.Trod enc Tryz.prog w base spare held 34 v d p) :
    ∃ (s : St) (ao : Option Addr) (cap : Nat), v = sv s ao cap ∧ s.fit ∧ s.ss.length ≤ maxLen ∧ (ao = none → cap = 0) ∧ Shs w ao s.ss := by
  obtain ⟨cs, rfl, hsz⟩ := okWide_struct Tryz.underlying34 hv
  rw [show Tryz.prog.cellsOf 34 = 19 by kernel_rfl] at hsz
  obtain ⟨c0, c1, c2, c3, c4, c5, c6, c7, c8, c9, c10, c11, c12, c13, c14, c15, c16, c17, c18, rfl⟩ := arr19 cs hsz
  obtain ⟨fuel, hf⟩ := h
  have q64 : Tryz.prog.cellsOf 27 = 1 := by kernel_rfl
  have q16 : Tryz.prog.cellsOf 23 = 1 := by kernel_rfl
  have qp : Tryz.prog.cellsOf 29 = 7 := by kernel_rfl
  have qa : Tryz.prog.cellsOf 30 = 14 := by kernel_rfl
  have qs : Tryz.prog.cellsOf 31 = 1 := by kernel_rfl
  have qc : Tryz.prog.cellsOf 32 = 2 := by kernel_rfl
  obtain ⟨n0, y0, h0⟩ := trod_field Tryz.underlying34 hf (i := 0) rfl
  obtain ⟨n1, y1, h1⟩ := trod_field Tryz.underlying34 hf (i := 1) rfl
  obtain ⟨n2, y2, h2⟩ := trod_field Tryz.underlying34 hf (i := 2) rfl
  obtain ⟨n3, y3, h3⟩ := trod_field Tryz.underlying34 hf (i := 3) rfl
  obtain ⟨n4, y4, h4⟩ := trod_field Tryz.underlying34 hf (i := 4) rfl
  obtain ⟨z0, e0, _, w0⟩ := DataW.trod_int Tryz.underlying27 h0
  obtain ⟨z1, e1, _, w1⟩ := DataW.trod_int Tryz.underlying27 h1
  obtain ⟨l, ao, cap, e3, hl, hn, hs⟩ := open_shots h3
  obtain ⟨m0, x0, g0⟩ := trod_elem Tryz.underlying30 h2 (i := 0) (by omega)
  obtain ⟨m1, x1, g1⟩ := trod_elem Tryz.underlying30 h2 (i := 1) (by omega)
  obtain ⟨m2, x2, g2⟩ := trod_elem Tryz.underlying32 h4 (i := 0) (by omega)
  obtain ⟨m3, x3, g3⟩ := trod_elem Tryz.underlying32 h4 (i := 1) (by omega)
  simp [Value.cells, q64] at e0 e1
  simp [Value.cells, qs] at e3
  simp [Value.cells, qa, qp] at g0 g1
  simp [Value.cells, qc, q16] at g2 g3
  obtain ⟨z2, e4, _, w2⟩ := DataW.trod_int Tryz.underlying23 g2
  obtain ⟨z3, e5, _, w3⟩ := DataW.trod_int Tryz.underlying23 g3
  simp at e4 e5
  obtain ⟨p, hp, rfl, rfl, rfl, rfl, rfl, rfl, rfl⟩ := open_player g0
  obtain ⟨q, hq, rfl, rfl, rfl, rfl, rfl, rfl, rfl⟩ := open_player g1
  subst e0 e1 e3 e4 e5
  have b0 := bounds_u64 w0
  have b1 := bounds_u64 w1
  have b2 := bounds_u16 w2
  have b3 := bounds_u16 w3
  obtain ⟨k0, rfl⟩ := Int.eq_ofNat_of_zero_le b0.1
  obtain ⟨k1, rfl⟩ := Int.eq_ofNat_of_zero_le b1.1
  obtain ⟨k2, rfl⟩ := Int.eq_ofNat_of_zero_le b2.1
  obtain ⟨k3, rfl⟩ := Int.eq_ofNat_of_zero_le b3.1
  exact ⟨⟨k0, k1, p, q, l, k2, k3⟩, ao, cap, rfl, ⟨by show k0 < _; omega, by show k1 < _; omega, hp, hq, fun x hx => by
    obtain ⟨i, hi, rfl⟩ := List.getElem_of_mem hx
    exact (hs i hi).1, by show k2 < _; omega, by show k3 < _; omega⟩, hl, hn, hs⟩
end
end Go.Proofs.YtacgmadgkmcmoaaGreatDoor
/- A copy of a state's shots by append; Copy, the program's and the document's: contracts. -/
namespace Go.Proofs.YtacgmadgkmcmoaaGreatDoor
open Go.RowKit
set_option linter.unusedVariables false

theorem hall_get : ∀ (l : List Sh) (j : Nat) (u : Value), (Hall l)[j]? = some u → ∃ (hk : j / 6 < l.length), (Hcs (l[j / 6]'hk))[j % 6]? = some u
  | [], j, u, h => by simp [Hall] at h
  | a :: l, j, u, h => by
    simp only [Hall, List.flatMap_cons] at h
    rcases Nat.lt_or_ge j 6 with h6 | h6
    · rw [List.getElem?_append_left (by simp [Hcs]; omega)] at h
      have e0 : j / 6 = 0 := by omega
      have e1 : j % 6 = j := by omega
      refine ⟨by rw [e0]; simp, ?_⟩
      simp only [e0, e1]
      exact h
    · rw [List.getElem?_append_right (by simp [Hcs]; omega)] at h
      obtain ⟨hk, hq⟩ := hall_get l (j - 6) u (by simpa [Hall, Hcs] using h)
      have e0 : j / 6 = (j - 6) / 6 + 1 := by omega
      have e1 : j % 6 = (j - 6) % 6 := by omega
      refine ⟨by rw [e0]; simpa using hk, ?_⟩
      simp only [e0, e1, List.getElem_cons_succ]
      exact hq
theorem Hall_len (l : List Sh) : (Hall l).length = l.length * 6 := by
  induction l with
  | nil => rfl
  | cons a l ih => simp only [Hall, List.flatMap_cons, List.length_append, List.length_cons] at ih ⊢; rw [ih]; simp [Hcs]; omega
theorem Hall_one (l : List Sh) : ∀ u ∈ Hall l, u.oneCell' = true := fun u hu => by
  obtain ⟨x, _, hx⟩ := List.mem_flatMap.1 hu
  simp only [Hcs, List.mem_cons, List.not_mem_nil, or_false] at hx
  rcases hx with rfl | rfl | rfl | rfl | rfl | rfl <;> rfl
theorem shs_news {w : World} {b o : Nat} {l : List Sh} (h : Shs w (some ⟨b, o, none⟩) l) : ∀ j u, (Hall l)[j]? = some u → w.cell? ((⟨b, o, none⟩ : Addr).add j) = some u := fun j u hu => by
  obtain ⟨hk, hq⟩ := hall_get l j u hu
  obtain ⟨_, b', o', e, hc⟩ := h (j / 6) hk
  obtain ⟨rfl, rfl⟩ : b = b' ∧ o = o' := by
    injection e with e
    injection e with e1 e2
    exact ⟨e1, e2⟩
  have := hc (j % 6) u hq
  have ea : (⟨b, o, none⟩ : Addr).add j = ⟨b, o + j / 6 * 6 + j % 6, none⟩ := by
    unfold Addr.add
    have : o + j = o + j / 6 * 6 + j % 6 := by omega
    split <;> simp_all
  rw [ea]
  exact this
theorem wpList_append_shots {w : World} {ops : Array Oper} {rest : List Oper} {o : Oper} {a : Act} {Q : Exit → Act → World → Prop} (hgd : o.guard = none) (s x : Operand)
    (ho : o.op = .call { callee := .builtin .append, args := #[s, x], argTypes := #[31, 31] }) (ao : Option Addr) (cap : Nat) (l : List Sh) (hs : a.eval s = .slice none 0 0) (hx : a.eval x = .slice ao l.length cap)
    (hsh : Shs w ao l) (hn : ao = none → cap = 0) (hl : l.length ≤ 1000000)
    (h : ∀ ao' cap' w', w'.ownsRow w.heap.size 98 6 (.slice ao' l.length cap') l.length (Hall l) → w.grownBy w' none → (ao' = none → cap' = 0) → wpList Tryz.prog ops Q rest (a.put o.dst (.slice ao' l.length cap')) w') :
    wpList Tryz.prog ops Q (o :: rest) a w := by
  obtain ⟨i0, hi0, hz0, hz1, hz2⟩ := info_parts info_Shot
  have hown : w.ownsRow w.heap.size 98 6 (.slice none 0 0) 0 [] := World.ownsRow_nil _ _ _ _
  by_cases h0 : l.length = 0
  · have e := List.eq_nil_of_length_eq_zero h0
    subst e
    cases ao with
    | none =>
      obtain rfl := hn rfl
      exact wpList_append_own_none hgd s x 31 ho w.heap.size 98 i0 6 Tryz.underlying31 hi0 (.slice none 0 0) 0 [] hs hown hx (h none 0 w hown (grown_refl _ _) (fun _ => rfl))
    | some ad =>
      refine wpList_append_own w hgd s x 31 ho w.heap.size 98 i0 (.agg #[.int .i32 0, .int .i32 0, .int .i32 0, .int .i32 0, .int .u8 0, .int .u8 0]) 6 20 Tryz.underlying31 hi0 hz0 hz1 hz2 rfl (by decide) (.slice none 0 0) 0 [] hs hown ad 0 cap [] hx rfl (by simp) (by simp) (by simp [maxLen]) (by omega) (Nat.le_refl _) ?_
      intro v' w1 hown1 hgr hnil
      obtain rfl := hnil.2 ⟨rfl, rfl⟩
      exact h none 0 w1 hown1 hgr (fun _ => rfl)
  · obtain ⟨_, b, o', rfl, _⟩ := hsh 0 (by omega)
    refine wpList_append_lies w hgd s x 31 ho w.heap.size 98 i0 (.agg #[.int .i32 0, .int .i32 0, .int .i32 0, .int .i32 0, .int .u8 0, .int .u8 0]) 6 20 Tryz.underlying31 hi0 hz0 hz1 hz2 rfl (by decide) (.slice none 0 0) 0 [] hs hown ⟨b, o', none⟩ l.length cap (Hall l) hx (Hall_len l) (shs_news hsh) (Hall_one l) (by omega) (by simp only [maxLen]; omega) (by omega) (Nat.le_refl _) _ rfl ?_
    intro g' cap' w1 hown1 hgr hat hlt1
    rw [Nat.zero_add, List.nil_append] at hown1
    rw [Nat.zero_add]
    exact h _ cap' w1 hown1 hgr (fun e => by cases e)
/-- What a copy is: the same state, its shots in memory of its own. -/
def CpPost (s : St) (w : World) (E : Ending) (w' : World) : Prop :=
  ∃ ao cap, E = .returned (sv s ao cap) ∧ w'.ownsRow w.heap.size 98 6 (.slice ao s.ss.length cap) s.ss.length (Hall s.ss) ∧ (ao = none → cap = 0) ∧ w.grownBy w' none
attribute [local go_sem ↓] loadAt_state storeAt_state
attribute [local go_sem] run_loadState rowOf_new rowOf_old rowOf_drew rowOf_drewN run_storeOk okRow_new okRow_old Value.oneCell' rowOf_own
theorem rowOf_old2 (w : World) (g : Nat) (A B : Obj) (h : g < w.heap.size) : rowOf ((w.alloc A).alloc B) g = rowOf w g := by
  rw [rowOf_old _ _ _ (by simp; omega), rowOf_old _ _ _ h]
theorem kept_cellB {w : World} {B n g i : Nat} {e : TypeId} {size : Nat} {v u : Value} {xs : List Value} (h : w.ownsRow B e size v n xs) (hg : g < B) : (w.setCell ⟨g, i, none⟩ u).ownsRow B e size v n xs := kept_row h (grown_set w g i u) hg
set_option maxHeartbeats 2000000 in
set_option maxRecDepth 20000 in
theorem refCopy_c (s : St) (ao : Option Addr) (cap : Nat) (w : World) (h : Shs w ao s.ss) (hn : ao = none → cap = 0) (hl : s.ss.length ≤ 1000000) :
    Calls Tryz.prog 10 #[sv s ao cap] w (CpPost s w) := by
  have hr0 : ∀ A : Obj, rowOf ((w.alloc (.cells (stc s ao cap) 34)).alloc A) w.heap.size = stc s ao cap := fun A => rowOf_cells ((Cells.made w _ _).alloc A)
  have HN := Lib.hid hn
  have HS := Lib.hid h
  clear hn h
  obtain ⟨Q, hQ⟩ : ∃ Q, Q = CpPost s w := ⟨_, rfl⟩
  rw [← hQ]
  have HQ : Hid (∀ (E : Ending) (w' : World), CpPost s w E w' → Q E w') := fun E w' x => by rw [hQ]; exact x
  clear hQ
  go_enter Tryz.func10, Tryz.ntmps10
  go_upto_region 2 with fail
  have HB1 : Hid (Bk ((((w.alloc (.cells (stc s ao cap) 34)).alloc (.cells #[.int .u64 0, .int .u64 0, .int .i32 0, .int .i32 0, .int .i32 0, .int .i32 0, .int .u8 0, .int .u8 0, .int .u8 0, .int .i32 0, .int .i32 0, .int .i32 0, .int .i32 0, .int .u8 0, .int .u8 0, .int .u8 0, .slice none 0 0, .int .u16 0, .int .u16 0] 34)).alloc (.cells #[.int .u64 0, .int .u64 0, .int .i32 0, .int .i32 0, .int .i32 0, .int .i32 0, .int .u8 0, .int .u8 0, .int .u8 0, .int .i32 0, .int .i32 0, .int .i32 0, .int .i32 0, .int .u8 0, .int .u8 0, .int .u8 0, .slice none 0 0, .int .u16 0, .int .u16 0] 34)).setRow (w.heap.size + 1 + 1) (stc s ao cap)) w.heap.size s ao cap) := cells_far (((Cells.made w _ _).alloc _).alloc _) (by omega) _
  have HB2 : Hid (Bk ((((w.alloc (.cells (stc s ao cap) 34)).alloc (.cells #[.int .u64 0, .int .u64 0, .int .i32 0, .int .i32 0, .int .i32 0, .int .i32 0, .int .u8 0, .int .u8 0, .int .u8 0, .int .i32 0, .int .i32 0, .int .i32 0, .int .i32 0, .int .u8 0, .int .u8 0, .int .u8 0, .slice none 0 0, .int .u16 0, .int .u16 0] 34)).alloc (.cells #[.int .u64 0, .int .u64 0, .int .i32 0, .int .i32 0, .int .i32 0, .int .i32 0, .int .u8 0, .int .u8 0, .int .u8 0, .int .i32 0, .int .i32 0, .int .i32 0, .int .i32 0, .int .u8 0, .int .u8 0, .int .u8 0, .slice none 0 0, .int .u16 0, .int .u16 0] 34)).setRow (w.heap.size + 1 + 1) (stc s ao cap)) (w.heap.size + 1) .zero none 0) := cells_far (Cells.alloc (heap_alloc2_new w _ _) _) (by omega) _
  have HB3 : Hid (Bk ((((w.alloc (.cells (stc s ao cap) 34)).alloc (.cells #[.int .u64 0, .int .u64 0, .int .i32 0, .int .i32 0, .int .i32 0, .int .i32 0, .int .u8 0, .int .u8 0, .int .u8 0, .int .i32 0, .int .i32 0, .int .i32 0, .int .i32 0, .int .u8 0, .int .u8 0, .int .u8 0, .slice none 0 0, .int .u16 0, .int .u16 0] 34)).alloc (.cells #[.int .u64 0, .int .u64 0, .int .i32 0, .int .i32 0, .int .i32 0, .int .i32 0, .int .u8 0, .int .u8 0, .int .u8 0, .int .i32 0, .int .i32 0, .int .i32 0, .int .i32 0, .int .u8 0, .int .u8 0, .int .u8 0, .slice none 0 0, .int .u16 0, .int .u16 0] 34)).setRow (w.heap.size + 1 + 1) (stc s ao cap)) (w.heap.size + 1 + 1) s ao cap) := by
    have := Cells.made ((w.alloc (.cells (stc s ao cap) 34)).alloc (.cells #[.int .u64 0, .int .u64 0, .int .i32 0, .int .i32 0, .int .i32 0, .int .i32 0, .int .u8 0, .int .u8 0, .int .u8 0, .int .i32 0, .int .i32 0, .int .i32 0, .int .i32 0, .int .u8 0, .int .u8 0, .int .u8 0, .slice none 0 0, .int .u16 0, .int .u16 0] 34)) 34 #[.int .u64 0, .int .u64 0, .int .i32 0, .int .i32 0, .int .i32 0, .int .i32 0, .int .u8 0, .int .u8 0, .int .u8 0, .int .i32 0, .int .i32 0, .int .i32 0, .int .i32 0, .int .u8 0, .int .u8 0, .int .u8 0, .slice none 0 0, .int .u16 0, .int .u16 0]
    rw [show ((w.alloc (.cells (stc s ao cap) 34)).alloc (.cells #[.int .u64 0, .int .u64 0, .int .i32 0, .int .i32 0, .int .i32 0, .int .i32 0, .int .u8 0, .int .u8 0, .int .u8 0, .int .i32 0, .int .i32 0, .int .i32 0, .int .i32 0, .int .u8 0, .int .u8 0, .int .u8 0, .slice none 0 0, .int .u16 0, .int .u16 0] 34)).heap.size = w.heap.size + 1 + 1 by simp] at this
    exact bk_setRow this s ao cap
  have HBW : Hid (Below w.heap.size w ((((w.alloc (.cells (stc s ao cap) 34)).alloc (.cells #[.int .u64 0, .int .u64 0, .int .i32 0, .int .i32 0, .int .i32 0, .int .i32 0, .int .u8 0, .int .u8 0, .int .u8 0, .int .i32 0, .int .i32 0, .int .i32 0, .int .i32 0, .int .u8 0, .int .u8 0, .int .u8 0, .slice none 0 0, .int .u16 0, .int .u16 0] 34)).alloc (.cells #[.int .u64 0, .int .u64 0, .int .i32 0, .int .i32 0, .int .i32 0, .int .i32 0, .int .u8 0, .int .u8 0, .int .u8 0, .int .i32 0, .int .i32 0, .int .i32 0, .int .i32 0, .int .u8 0, .int .u8 0, .int .u8 0, .slice none 0 0, .int .u16 0, .int .u16 0] 34)).setRow (w.heap.size + 1 + 1) (stc s ao cap))) := below_setRow ((((Below.refl _ w).alloc (Nat.le_refl _) _).alloc (by simp) _).alloc (by simp; omega) _) (by omega) _
  generalize ((((w.alloc (.cells (stc s ao cap) 34)).alloc (.cells #[.int .u64 0, .int .u64 0, .int .i32 0, .int .i32 0, .int .i32 0, .int .i32 0, .int .u8 0, .int .u8 0, .int .u8 0, .int .i32 0, .int .i32 0, .int .i32 0, .int .i32 0, .int .u8 0, .int .u8 0, .int .u8 0, .slice none 0 0, .int .u16 0, .int .u16 0] 34)).alloc (.cells #[.int .u64 0, .int .u64 0, .int .i32 0, .int .i32 0, .int .i32 0, .int .i32 0, .int .u8 0, .int .u8 0, .int .u8 0, .int .i32 0, .int .i32 0, .int .i32 0, .int .i32 0, .int .u8 0, .int .u8 0, .int .u8 0, .slice none 0 0, .int .u16 0, .int .u16 0] 34)).setRow (w.heap.size + 1 + 1) (stc s ao cap)) = wa at *
  clear hr0
  have e16 := HB3.out.of 16 _ rfl
  have f16 := Cells.frozen HB3.out 16
  have hlt := Cells.lt HB3.out
  go_upto_region 3 with fail
  have HC1 : Hid (Bk (wa.setCell ⟨w.heap.size + 1 + 1, 16, none⟩ (.slice none 0 0)) w.heap.size s ao cap) := Cells.far HB1.out (by show w.heap.size ≠ w.heap.size + 1 + 1; omega) _
  have HC2 : Hid (Bk (wa.setCell ⟨w.heap.size + 1 + 1, 16, none⟩ (.slice none 0 0)) (w.heap.size + 1) .zero none 0) := Cells.far HB2.out (by show w.heap.size + 1 ≠ w.heap.size + 1 + 1; omega) _
  have HC3 : Hid (Bk (wa.setCell ⟨w.heap.size + 1 + 1, 16, none⟩ (.slice none 0 0)) (w.heap.size + 1 + 1) { s with ss := [] } none 0) := bk_set16 HB3.out [] 0 rfl none 0
  have HCW : Hid (Below w.heap.size w (wa.setCell ⟨w.heap.size + 1 + 1, 16, none⟩ (.slice none 0 0))) := HBW.out.setCell (by show w.heap.size ≤ w.heap.size + 1 + 1; omega) _
  clear e16 f16 hlt HB1 HB2 HB3 HBW
  generalize wa.setCell ⟨w.heap.size + 1 + 1, 16, none⟩ (.slice none 0 0) = wb at *
  have e16 := HC3.out.of 16 _ rfl
  have c16 := HC1.out.of 16 _ rfl
  have HSb : Hid (Shs wb ao s.ss) := Shs_grown HS.out (grown_of_below (r := none) HCW.out) (by simp)
  have hlt3 := Cells.lt HC3.out
  go_wp2_with (at_builtin; refine wpList_append_shots rfl _ _ rfl ao cap s.ss (by simp [Act.eval]) (by simp [Act.eval]) HSb.out HN.out hl ?_; intro ao' cap' w1 hown hgr hnil; have HO := Lib.hid hown; have HN2 := Lib.hid hnil; have HD2 := Lib.hid (bk_grown HC2.out hgr (by simp)); have HD3 := Lib.hid (bk_grown HC3.out hgr (by simp)); have HDW := Lib.hid (HCW.out.trans ((below_of_grown hgr).mono (by omega))); clear hown hnil hgr c16 e16 HC1 HC2 HC3 HCW HSb; have e16 := HD3.out.of 16 _ rfl; have f16 := Cells.frozen HD3.out 16; have hr1 : rowOf (w1.setCell ⟨w.heap.size + 1 + 1, 16, none⟩ (.slice ao' s.ss.length cap')) (w.heap.size + 1 + 1) = stc s ao' cap' := rowOf_cells (bk_set16 HD3.out s.ss s.ss.length rfl ao' cap'); have hb2 : Bk (w1.setCell ⟨w.heap.size + 1 + 1, 16, none⟩ (.slice ao' s.ss.length cap')) (w.heap.size + 1) .zero none 0 := Cells.far HD2.out (by show w.heap.size + 1 ≠ w.heap.size + 1 + 1; omega) _; have hok := okRow_bk hb2; have HBz := Lib.hid hb2; clear hb2; have HB3 : Hid (Below w.heap.size w (w1.setCell ⟨w.heap.size + 1 + 1, 16, none⟩ (.slice ao' s.ss.length cap'))) := HDW.out.setCell (by show w.heap.size ≤ w.heap.size + 1 + 1; omega) _)
  refine bodyPost_ret (v := sv s ao' cap') ?_ rfl ?_
  · exact ret_state _ 2 _ Tryz.results10 (setRow_heap _ _ _ _ _ _ HBz.out) rfl rfl
  · refine HQ.out _ _ ?_
    exact ⟨ao', cap', rfl, owns_less (kept_row (kept_cellB HO.out (by omega)) (grown_setRow _ _ _) (by omega)) (by omega), HN2.out, grown_of_below (below_setRow HB3.out (by omega) _)⟩
end Go.Proofs.YtacgmadgkmcmoaaGreatDoor
/- The document's Same: its contract. -/
namespace Go.Proofs.YtacgmadgkmcmoaaGreatDoor
open Go.RowKit
set_option linter.unusedVariables false

attribute [local go_sem ↓] loadAt_state storeAt_state
attribute [local go_sem] run_loadState rowOf_new rowOf_old rowOf_drew rowOf_drewN run_storeOk okRow_new okRow_old Value.oneCell' rowOf_own
theorem sh_neq2 (a b : Sh) (w : World) : (binOp .neq 98 (.agg #[.int .i32 a.x, .int .i32 a.y, .int .i32 a.vx, .int .i32 a.vy, .int .u8 (a.o : Int), .int .u8 (a.l : Int)]) (.agg #[.int .i32 b.x, .int .i32 b.y, .int .i32 b.vx, .int .i32 b.vy, .int .u8 (b.o : Int), .int .u8 (b.l : Int)])).run Tryz.prog w = .ok (.bool (!decide (a = b))) w := sh_neq a b w
theorem pl_neq (a b : Pl) (w : World) : (binOp .neq 29 (.agg #[.int .i32 a.x, .int .i32 a.y, .int .i32 a.vx, .int .i32 a.vy, .int .u8 (a.h : Int), .int .u8 (a.c : Int), .int .u8 (a.f : Int)]) (.agg #[.int .i32 b.x, .int .i32 b.y, .int .i32 b.vx, .int .i32 b.vy, .int .u8 (b.h : Int), .int .u8 (b.c : Int), .int .u8 (b.f : Int)])).run Tryz.prog w = .ok (.bool (!decide (a = b))) w := by
  rw [run_neq_struct, pl_in 9998 a b w]
  rfl
theorem sc_neq (a b c d : Int) (w : World) : (binOp .neq 32 (.agg #[.int .u16 a, .int .u16 b]) (.agg #[.int .u16 c, .int .u16 d])).run Tryz.prog w = .ok (.bool (!((a == c) && (b == d)))) w := by
  have h := sc_eql a b c d w
  rw [run_eql_struct] at h
  rw [run_neq_struct]
  cases hq : ((Op.equalIn 10000 32 (.agg #[.int .u16 a, .int .u16 b]) (.agg #[.int .u16 c, .int .u16 d])).run Tryz.prog w) <;> simp_all
section
attribute [local go_sem ↓] loadAt_pair sh_neq2 pl_neq sc_neq
set_option maxHeartbeats 2000000 in
set_option maxRecDepth 20000 in
theorem refSame_c (a b : St) (ao bo : Option Addr) (c1 c2 : Nat) (w : World) (h1 : Shs w ao a.ss) (h2 : Shs w bo b.ss) (hl : a.ss.length ≤ maxLen) (hm : b.ss.length ≤ maxLen) :
    Calls Tryz.prog 13 #[sv a ao c1, sv b bo c2] w fun E w' => E = .returned (.bool (same a b)) ∧ w.grownBy w' none := by
  have hg : w.grownBy ((w.alloc (.cells (stc a ao c1) 34)).alloc (.cells (stc b bo c2) 34)) none := (grown_alloc _ _).trans (grown_alloc _ _)
  have HS1 := Lib.hid (Shs_grown h1 hg (by simp))
  have HS2 := Lib.hid (Shs_grown h2 hg (by simp))
  have HBa : Hid (Bk ((w.alloc (.cells (stc a ao c1) 34)).alloc (.cells (stc b bo c2) 34)) w.heap.size a ao c1) := heap_alloc2_old w _ _
  have HBb : Hid (Bk ((w.alloc (.cells (stc a ao c1) 34)).alloc (.cells (stc b bo c2) 34)) (w.heap.size + 1) b bo c2) := heap_alloc2_new w _ _
  have HG := Lib.hid hg
  have hand : same a b = (((a.fr : Int) == (b.fr : Int)) && (((a.sd : Int) == (b.sd : Int)) && (decide (a.p = b.p) && (decide (a.q = b.q) && ((((a.s0 : Int) == (b.s0 : Int)) && ((a.s1 : Int) == (b.s1 : Int))) && decide (a.ss = b.ss)))))) := by
    rw [same_and]
    cases decide (a.ss = b.ss) <;> simp [Bool.and_assoc]
  rw [hand]
  simp only [maxLen] at hl hm
  have HLE : Hid (((a.ss.length : Int) == (b.ss.length : Int)) = false → decide (a.ss = b.ss) = false) := fun e => decide_eq_false (fun x => by rw [x] at e; simp at e)
  have HN : Hid (∀ k (h : k < a.ss.length) (h' : k < b.ss.length), ¬ (a.ss[k]'h) = (b.ss[k]'h') → decide (a.ss = b.ss) = false) := fun k h h' e => decide_eq_false (fun x => e (by revert h h'; rw [x]; intros; rfl))
  have HY : Hid (∀ k, k = a.ss.length → a.ss.length = b.ss.length → a.ss.take k = b.ss.take k → decide (a.ss = b.ss) = true) := fun k e e2 x => decide_eq_true (by subst e; rwa [List.take_length, e2, List.take_length] at x)
  clear hg h1 h2 hand
  generalize decide (a.ss = b.ss) = ans at *
  cases h0 : ((a.fr : Int) == (b.fr : Int))
  · have g0 : ((a.fr : Int) != (b.fr : Int)) = true := by rw [bne, h0]; rfl
    go_enter Tryz.func13, Tryz.ntmps13
    go_wp2
    all_goals (go_ret; exact ⟨rfl, HG.out⟩)
  have g0 : ((a.fr : Int) != (b.fr : Int)) = false := by rw [bne, h0]; rfl
  cases h1 : ((a.sd : Int) == (b.sd : Int))
  · have g1 : ((a.sd : Int) != (b.sd : Int)) = true := by rw [bne, h1]; rfl
    go_enter Tryz.func13, Tryz.ntmps13
    go_wp2
    all_goals (go_ret; exact ⟨rfl, HG.out⟩)
  have g1 : ((a.sd : Int) != (b.sd : Int)) = false := by rw [bne, h1]; rfl
  cases h2 : decide (a.p = b.p)
  · go_enter Tryz.func13, Tryz.ntmps13
    go_wp2
    all_goals (go_ret; exact ⟨rfl, HG.out⟩)
  cases h3 : decide (a.q = b.q)
  · go_enter Tryz.func13, Tryz.ntmps13
    go_wp2
    all_goals (go_ret; exact ⟨rfl, HG.out⟩)
  cases h4 : (((a.s0 : Int) == (b.s0 : Int)) && ((a.s1 : Int) == (b.s1 : Int)))
  · go_enter Tryz.func13, Tryz.ntmps13
    go_wp2
    all_goals (go_ret; exact ⟨rfl, HG.out⟩)
  cases h5 : ((a.ss.length : Int) == (b.ss.length : Int))
  · obtain rfl := HLE.out h5
    have g5 : ((a.ss.length : Int) != (b.ss.length : Int)) = true := by rw [bne, h5]; rfl
    go_enter Tryz.func13, Tryz.ntmps13
    go_wp2
    all_goals (go_ret; exact ⟨rfl, HG.out⟩)
  have g5 : ((a.ss.length : Int) != (b.ss.length : Int)) = false := by rw [bne, h5]; rfl
  have hlen : a.ss.length = b.ss.length := by have := eq_of_beq h5; omega
  have HLEN := Lib.hid hlen
  clear hlen
  go_enter Tryz.func13, Tryz.ntmps13
  go_wp2
  generalize (w.alloc (.cells (stc a ao c1) 34)).alloc (.cells (stc b bo c2) 34) = w0 at *
  clear h0 h1 h2 h3 h4 h5 g0 g1 g5
  go_loopw [5] (fun v wr => ∃ k : Nat, k ≤ a.ss.length ∧ v = .int .i64 k ∧ Hid (a.ss.take k = b.ss.take k) ∧ Hid (w0.grownBy wr none)) (fun v _ => a.ss.length - (intOf v).toNat)
  case atStart => exact ⟨0, by omega, rfl, rfl, grown_refl _ _⟩
  case round =>
    obtain ⟨k, hk, rfl, HE, HW⟩ := hrel
    have c16 := (bk_grown HBa.out HW.out (by simp)).of 16 _ rfl
    have d16 := (bk_grown HBb.out HW.out (by simp)).of 16 _ rfl
    have h1 := Lib.hid (Shs_grown HS1.out HW.out (by simp))
    have h2 := Lib.hid (Shs_grown HS2.out HW.out (by simp))
    by_cases hlt : k < a.ss.length
    · have hlt2 : k < b.ss.length := by rw [← HLEN.out]; exact hlt
      obtain ⟨_, pb, po, rfl, hp⟩ := h1.out k hlt
      obtain ⟨_, qb, qo, rfl, hq⟩ := h2.out k hlt2
      have p0 : wr.cell? ⟨pb, po + k * 6, none⟩ = some (.int .i32 (a.ss[k]'hlt).x) := (hp 0 _ rfl)
      have p1 : wr.cell? ⟨pb, po + k * 6 + 1, none⟩ = some (.int .i32 (a.ss[k]'hlt).y) := (hp 1 _ rfl)
      have p2 : wr.cell? ⟨pb, po + k * 6 + 2, none⟩ = some (.int .i32 (a.ss[k]'hlt).vx) := (hp 2 _ rfl)
      have p3 : wr.cell? ⟨pb, po + k * 6 + 3, none⟩ = some (.int .i32 (a.ss[k]'hlt).vy) := (hp 3 _ rfl)
      have p4 : wr.cell? ⟨pb, po + k * 6 + 4, none⟩ = some (.int .u8 ((a.ss[k]'hlt).o : Int)) := (hp 4 _ rfl)
      have p5 : wr.cell? ⟨pb, po + k * 6 + 5, none⟩ = some (.int .u8 ((a.ss[k]'hlt).l : Int)) := (hp 5 _ rfl)
      have q0 : wr.cell? ⟨qb, qo + k * 6, none⟩ = some (.int .i32 (b.ss[k]'hlt2).x) := (hq 0 _ rfl)
      have q1 : wr.cell? ⟨qb, qo + k * 6 + 1, none⟩ = some (.int .i32 (b.ss[k]'hlt2).y) := (hq 1 _ rfl)
      have q2 : wr.cell? ⟨qb, qo + k * 6 + 2, none⟩ = some (.int .i32 (b.ss[k]'hlt2).vx) := (hq 2 _ rfl)
      have q3 : wr.cell? ⟨qb, qo + k * 6 + 3, none⟩ = some (.int .i32 (b.ss[k]'hlt2).vy) := (hq 3 _ rfl)
      have q4 : wr.cell? ⟨qb, qo + k * 6 + 4, none⟩ = some (.int .u8 ((b.ss[k]'hlt2).o : Int)) := (hq 4 _ rfl)
      have q5 : wr.cell? ⟨qb, qo + k * 6 + 5, none⟩ = some (.int .u8 ((b.ss[k]'hlt2).l : Int)) := (hq 5 _ rfl)
      have HN2 := Lib.hid (HN.out k hlt hlt2)
      have HS : Hid ((a.ss[k]'hlt) = (b.ss[k]'hlt2) → a.ss.take (k + 1) = b.ss.take (k + 1)) := fun e => by
        rw [List.take_succ_eq_append_getElem hlt, List.take_succ_eq_append_getElem hlt2, HE.out, e]
      clear hp hq HE
      generalize (a.ss[k]'hlt) = x at *
      generalize (b.ss[k]'hlt2) = y at *
      have hki : (k : Int) < (a.ss.length : Int) := by omega
      have hki2 : (k : Int) < (b.ss.length : Int) := by omega
      by_cases hxy : x = y
      · have HX := Lib.hid (HS.out hxy)
        have hd : decide (x = y) = true := decide_eq_true hxy
        clear HS HN2 h1 h2
        go_wp2_with fail
        go_quiet (fail)
        go_wp2
        go_roundw
        case rel => exact ⟨k + 1, by omega, by go_num, HX, HW.out.trans (grown_drewN _ _ _)⟩
        case measure => simp [intOf]; omega
      · obtain rfl := HN2.out hxy
        have hd : decide (x = y) = false := decide_eq_false hxy
        clear HS HN2 h1 h2
        go_wp2_with fail
        go_quiet (fail)
        go_wp2
        go_ret
        exact ⟨rfl, (HG.out.trans HW.out).trans (grown_drewN _ _ _)⟩
    · obtain rfl := HY.out k (by omega) HLEN.out HE.out
      go_wp2
      go_ret
      exact ⟨rfl, HG.out.trans HW.out⟩
end
end Go.Proofs.YtacgmadgkmcmoaaGreatDoor
/- A player laid into a block: one step of the walk. -/
namespace Go.Proofs.YtacgmadgkmcmoaaGreatDoor
open Go.RowKit
set_option linter.unusedVariables false

/-- A player laid into a block. -/
def storePl (p v : Value) : Sem Unit := Instr.storeAt 29 p v
theorem storeAt_pl (p v : Value) : Instr.storeAt 29 p v = storePl p v := rfl
theorem run_storePl {w : World} {g : Nat} {t : TypeId} {old cs : Array Value} (o : Nat) (h : Cells w g t old) (ho : o + 7 ≤ old.size) (hc : cs.size = 7) (h1 : cs.toList.all Value.oneCell' = true) :
    (storePl (.pointer (some ⟨g, o, none⟩)) (.agg cs)).run Tryz.prog w = .ok () (w.setRow g (old.toList.take o ++ cs.toList ++ old.toList.drop (o + 7)).toArray) := by
  have hst := run_storeCells_at Tryz.prog g o t cs.toList 0 old w h (by simp [hc]; omega) (fun v hv => List.all_eq_true.1 h1 v hv)
  rw [Nat.add_zero, show cs.toList.length = 7 from by simpa using hc] at hst
  cases hq : Tryz.prog.info? 29 with
  | none => have := info_PlSz; rw [hq] at this; simp at this
  | some i =>
    have hi : i.size = 7 := by have := info_PlSz; rw [hq] at this; simpa using this
    simp [storePl, Instr.storeAt, Instr.sureAddr, storeVar, sizeOf, typeInfo, hq, hi, Value.cells, hc, hst]
theorem alloc_setRow (w : World) (z cs : Array Value) (t : TypeId) : (w.alloc (.cells z t)).setRow w.heap.size cs = w.alloc (.cells cs t) := by
  unfold World.setRow World.alloc
  cases w with
  | mk heap tape drawn os output =>
    congr 1
    apply Array.ext
    · simp
    · intro k h1 h2
      simp only [Array.getElem_modify, Array.getElem_push]
      split
      · rename_i hk; subst hk; simp
      · rename_i hk
        have : k < heap.size := by simp at h2; omega
        simp [this]
theorem run_storePlNew (w : World) (t : TypeId) (z cs : Array Value) (g : Nat) (hg : g = w.heap.size) (hz : z.size = 7) (hc : cs.size = 7) (h1 : cs.toList.all Value.oneCell' = true) :
    (storePl (.pointer (some ⟨g, 0, none⟩)) (.agg cs)).run Tryz.prog (w.alloc (.cells z t)) = .ok () (w.alloc (.cells cs t)) := by
  subst hg
  rw [run_storePl 0 (Cells.made w t z) (by omega) hc h1]
  have e : (z.toList.take 0 ++ cs.toList ++ z.toList.drop (0 + 7)).toArray = cs := by
    rw [List.drop_of_length_le (by simp; omega)]; simp
  rw [e]
  rw [alloc_setRow w z cs t]
end Go.Proofs.YtacgmadgkmcmoaaGreatDoor
/- A number brought within bounds, as the statements do: its contract. -/
namespace Go.Proofs.YtacgmadgkmcmoaaGreatDoor
open Go.RowKit
set_option linter.unusedVariables false

/-- A number brought within bounds. -/
def nr (n a b : Int) : Int := a + n % (b - a + 1)
theorem nr_in {n a b : Int} (h : a ≤ b) : a ≤ nr n a b ∧ nr n a b ≤ b := by
  unfold nr
  have h1 := Int.emod_nonneg n (show b - a + 1 ≠ 0 by omega)
  have h2 := Int.emod_lt_of_pos n (show 0 < b - a + 1 by omega)
  omega
theorem tmod_twice (n w : Int) (hw : 0 < w) : (n.tmod w + w).tmod w = n % w := by
  have h1 := Int.tmod_lt_of_pos n hw
  have h2 : -w < n.tmod w := Int.lt_tmod_of_pos n hw
  rw [Int.tmod_eq_emod_of_nonneg (by omega), Int.add_emod_right, Int.tmod_eq_emod]
  split
  · simp
  · rw [Int.sub_emod]
    have : (w.natAbs : Int) = w := by omega
    simp [this]
theorem near_c (n a b : Int) (w : World) (hn : i32 n) (ha : i32 a) (hb : i32 b) (hab : a ≤ b) :
    Calls Tryz.prog 80 #[.int .i32 n, .int .i32 a, .int .i32 b] w fun E w' => E = .returned (.int .i32 (nr n a b)) ∧ w = w' := by
  obtain ⟨n1, n2⟩ := hn
  obtain ⟨a1, a2⟩ := ha
  obtain ⟨b1, b2⟩ := hb
  have hr := nr_in (n := n) hab
  have hT := Lib.hid (tmod_twice n (b - a + 1) (by omega))
  have HE : Hid (wrap32 (wrap64 (a + (wrap64 (n.tmod (b - a + 1) + (b - a + 1))).tmod (b - a + 1))) = nr n a b) := by
    show _ = _
    have h1 := Int.tmod_lt_of_pos n (show 0 < b - a + 1 by omega)
    have h2 : -(b - a + 1) < n.tmod (b - a + 1) := Int.lt_tmod_of_pos n (by omega)
    have e1 : wrap64 (n.tmod (b - a + 1) + (b - a + 1)) = n.tmod (b - a + 1) + (b - a + 1) := by
      generalize n.tmod (b - a + 1) = t at *
      unfold wrap64; omega
    rw [e1, hT.out]
    unfold nr at hr ⊢
    generalize n % (b - a + 1) = t at *
    unfold wrap64 wrap32; omega
  go_enter Tryz.func80, Tryz.ntmps80
  go_wp2
  go_ret
  exact ⟨congrArg (fun z => Ending.returned (.int .i32 z)) HE.out, rfl⟩
/-! A state that may be, out of any one. -/
def mdP (p : Pl) : Pl := ⟨nr p.x 0 61440, nr p.y 0 28672, nr p.vx (-1024) 1024, nr p.vy (-1024) 1024, 1 + p.h % 100, p.c % 31, p.f % 4⟩
def mdH (s : Sh) : Sh := ⟨nr s.x 0 65024, nr s.y 0 32256, nr s.vx (-2048) 2048, nr s.vy (-2048) 2048, s.o % 2, 1 + s.l % 40⟩
def md (s : St) : St := { s with p := mdP s.p, q := mdP s.q, ss := (s.ss.take 8).map mdH }
theorem okA_i (i : Nat) (n : Int) (h : lo i ≤ n ∧ n ≤ hi i) : okA i n = true := decide_eq_true h
theorem mdP_good (p : Pl) : (mdP p).good = true ∧ (mdP p).fit := by
  have h0 := nr_in (n := p.x) (show (0 : Int) ≤ 61440 by decide)
  have h1 := nr_in (n := p.y) (show (0 : Int) ≤ 28672 by decide)
  have h2 := nr_in (n := p.vx) (show (-1024 : Int) ≤ 1024 by decide)
  have h3 := nr_in (n := p.vy) (show (-1024 : Int) ≤ 1024 by decide)
  refine ⟨?_, ⟨?_, ?_⟩, ⟨?_, ?_⟩, ⟨?_, ?_⟩, ⟨?_, ?_⟩, ?_, ?_, ?_⟩
  · rw [goodPlayer]
    simp only [Bool.and_eq_true]
    (repeat' apply And.intro) <;> first | rfl | exact trivial | exact decide_eq_true (by first | omega | (try simp only [mdP]); omega)
  all_goals (simp only [mdP]; omega)
theorem mdH_good (s : Sh) : (mdH s).good = true ∧ (mdH s).fit := by
  have h0 := nr_in (n := s.x) (show (0 : Int) ≤ 65024 by decide)
  have h1 := nr_in (n := s.y) (show (0 : Int) ≤ 32256 by decide)
  have h2 := nr_in (n := s.vx) (show (-2048 : Int) ≤ 2048 by decide)
  have h3 := nr_in (n := s.vy) (show (-2048 : Int) ≤ 2048 by decide)
  refine ⟨?_, ⟨?_, ?_⟩, ⟨?_, ?_⟩, ⟨?_, ?_⟩, ⟨?_, ?_⟩, ?_, ?_⟩
  · rw [goodShot]
    simp only [Bool.and_eq_true]
    (repeat' apply And.intro) <;> first | rfl | exact trivial | exact decide_eq_true (by first | omega | (try simp only [mdH]); omega)
  all_goals (simp only [mdH]; omega)
theorem md_good (s : St) : (md s).good = true := by
  rw [good_st]
  have h : ((s.ss.take 8).map mdH).all Sh.good = true := by
    rw [List.all_eq_true]
    intro x hx
    obtain ⟨y, _, rfl⟩ := List.mem_map.1 hx
    exact (mdH_good y).1
  have hl : ((s.ss.take 8).map mdH).length ≤ 8 := by simp; omega
  have hd : decide ((md s).ss.length ≤ 8) = true := decide_eq_true hl
  have h' : (md s).ss.all Sh.good = true := h
  have hp : [(md s).p, (md s).q].all Pl.good = true := by simp [md, (mdP_good s.p).1, (mdP_good s.q).1]
  rw [hd, h', hp]
  rfl
theorem md_fit {s : St} (h1 : s.fr < 18446744073709551616) (h2 : s.sd < 18446744073709551616) (h3 : s.s0 < 65536) (h4 : s.s1 < 65536) : (md s).fit :=
  ⟨h1, h2, (mdP_good s.p).2, (mdP_good s.q).2, fun x hx => by
    obtain ⟨y, _, rfl⟩ := List.mem_map.1 (show x ∈ (s.ss.take 8).map mdH from hx)
    exact (mdH_good y).2, h3, h4⟩
end Go.Proofs.YtacgmadgkmcmoaaGreatDoor
