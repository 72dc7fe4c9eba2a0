/- Numbers as a player, as a shot; how package state reads players and shots: one contract each. -/
import Derived.Test.YtbmkmmkebophpaaDoorSh
import Derived.Deep.RegionHeld3
import Derived.Deep.OwnRows
namespace Go.Proofs.YtbmkmmkebophpaaDoor
open Go.RowKit
set_option linter.unusedVariables false

theorem info_i32 : (Tryd.prog.info? 21).map (fun i => (i.zero, i.size, i.bytes)) = some (some (.int .i32 0), 1, 4) := by kernel_rfl
theorem num_lt (k : Nat) (l : List UInt8) : (num k l).val < 256 ^ k := by
  unfold num
  split
  · have := un_lt (l.take k)
    rwa [List.length_take, Nat.min_eq_left (by assumption)] at this
  · exact Nat.two_pow_pos 0 |> fun _ => Nat.pow_pos (by decide)
theorem many_lt : ∀ (m i : Nat) (l : List UInt8), okM okN m i (many (fun i => num (wd i)) m i l).val
  | 0, _, _ => rfl
  | m + 1, i, l => ⟨_, _, rfl, num_lt _ _, many_lt m (i + 1) _⟩
/-- The numbers as they stand in the row of 32 bits. -/
def nvI (i n : Nat) : Int := if i < 4 then wrap32 n else (n : Int)
def nvs : Nat → List Nat → List Int
  | _, [] => []
  | i, a :: r => nvI i a :: nvs (i + 1) r
theorem nvs_snoc : ∀ (l : List Nat) (i a : Nat), nvs i (l ++ [a]) = nvs i l ++ [nvI (i + l.length) a]
  | [], i, a => by simp [nvs]
  | x :: l, i, a => by
    simp only [List.cons_append, nvs, nvs_snoc l (i + 1) a, List.length_cons]
    rw [show i + 1 + l.length = i + (l.length + 1) from by omega]
theorem nvs_len : ∀ (l : List Nat) (i : Nat), (nvs i l).length = l.length
  | [], _ => rfl
  | _ :: l, i => by simp [nvs, nvs_len l]
def rowN (m : Nat) (l : List Nat) : Array Value := i32v (nvs 0 l ++ List.replicate (m - l.length) 0)
theorem rowN_nil (m : Nat) : rowN m [] = madeCells #[.int .i32 0] m := by
  apply Array.ext'
  rw [toList_madeCells_one]
  simp [rowN, nvs, i32v]
theorem rowN_set (m : Nat) (l : List Nat) (a : Nat) (h : l.length < m) : (rowN m l).setIfInBounds l.length (.int .i32 (nvI l.length a)) = rowN m (l ++ [a]) := by
  apply Array.ext'
  have e : m - l.length = (m - (l.length + 1)) + 1 := by omega
  simp only [rowN, i32v, nvs_snoc, Nat.zero_add, List.length_append, List.length_cons, List.length_nil]
  rw [e, List.replicate_succ]
  simp [nvs_len]
theorem many_val_len {α : Type} (P : Nat → List UInt8 → Got α) (m i : Nat) (l : List UInt8) : (many P m i l).val.length = m := many_len P m i l
theorem rowN_at (m : Nat) (l : List Nat) (j : Nat) (hl : l.length = j) (h : j < m) : (rowN m l)[j]? = some (.int .i32 0) := by
  rw [rowN, i32v, ← Array.getElem?_toList]
  simp only [List.getElem?_map]
  rw [List.getElem?_append_right (by rw [nvs_len]; omega), nvs_len, hl, Nat.sub_self]
  rw [List.getElem?_replicate, if_pos (by omega)]
  rfl
theorem grown_setNew {w w1 : World} {r : Option Nat} {p : Addr} {u : Value} (h : w.grownBy w1 r) (hp : w.heap.size ≤ p.block) : w.grownBy (w1.setCell p u) r :=
  ⟨h.os, h.tape, h.output, by have := h.size; simp [World.setCell]; exact this, fun i hi hn => (Below.heap_setCell _ _ _ i (by omega)).trans (h.block i hi hn)⟩
theorem grown_row {w w1 w2 : World} {r : Nat} {ob : Option Nat} (h : w.grownBy w1 (some r)) (k : w1.grownBy w2 ob) (hb : ∀ q, ob = some q → w.heap.size ≤ q) : w.grownBy w2 (some r) :=
  ⟨k.os.trans h.os, k.tape.trans h.tape, k.output.trans h.output, Nat.le_trans h.size k.size, fun i hi hn => (k.block i (Nat.lt_of_lt_of_le hi h.size) (fun e => by have := hb i e.symm; omega)).trans (h.block i hi hn)⟩
theorem many_val {α : Type} (P : Nat → List UInt8 → Got α) (m i : Nat) (l : List UInt8) : (many P (m + 1) i l).val = (many P m i l).val ++ [(P (i + m) (many P m i l).rest).val] := by rw [many_snoc]
theorem many_rest {α : Type} (P : Nat → List UInt8 → Got α) (m i : Nat) (l : List UInt8) : (many P (m + 1) i l).rest = (P (i + m) (many P m i l).rest).rest := by rw [many_snoc]
theorem many_err {α : Type} (P : Nat → List UInt8 → Got α) (m i : Nat) (l : List UInt8) : (many P (m + 1) i l).err = fin (many P m i l).err (P (i + m) (many P m i l).rest).err := by rw [many_snoc]
theorem kept_row {w w' : World} {base : Nat} {e : TypeId} {size n : Nat} {v : Value} {xs : List Value} {r : Nat} (h : w.ownsRow base e size v n xs) (hb : w.grownBy w' (some r)) (hr : r < base) : w'.ownsRow base e size v n xs :=
  h.kept hb (by
    rcases h.2 with ⟨rfl, _⟩ | ⟨g', cap, cur, rfl, hg, _⟩
    · exact .inl rfl
    · exact .inr (by simp [Value.ownBlock]; omega))

set_option maxHeartbeats 1000000 in
set_option maxRecDepth 20000 in
theorem toPlayer_c (g : Nat) (p : Pl) (w : World) (hc : Cells w g 21 (i32v p.nums)) (h4 : p.h < 256) (h5 : p.c < 256) (h6 : p.f < 256) :
    Calls Tryd.prog 43 #[.slice (some ⟨g, 0, none⟩) 7 7] w fun E w' => E = .returned (pv p) ∧ w.grownBy w' none := by
  have a0 : ∀ w', On w.heap.size w w' → w'.cell? ⟨g, 0, none⟩ = some (.int .i32 p.x) := on_cell hc hc.lt 0 rfl
  have a1 : ∀ w', On w.heap.size w w' → w'.cell? ⟨g, 1, none⟩ = some (.int .i32 p.y) := on_cell hc hc.lt 1 rfl
  have a2 : ∀ w', On w.heap.size w w' → w'.cell? ⟨g, 2, none⟩ = some (.int .i32 p.vx) := on_cell hc hc.lt 2 rfl
  have a3 : ∀ w', On w.heap.size w w' → w'.cell? ⟨g, 3, none⟩ = some (.int .i32 p.vy) := on_cell hc hc.lt 3 rfl
  have a4 : ∀ w', On w.heap.size w w' → w'.cell? ⟨g, 4, none⟩ = some (.int .i32 (p.h : Int)) := on_cell hc hc.lt 4 rfl
  have a5 : ∀ w', On w.heap.size w w' → w'.cell? ⟨g, 5, none⟩ = some (.int .i32 (p.c : Int)) := on_cell hc hc.lt 5 rfl
  have a6 : ∀ w', On w.heap.size w w' → w'.cell? ⟨g, 6, none⟩ = some (.int .i32 (p.f : Int)) := on_cell hc hc.lt 6 rfl
  have e4 := u8_id h4
  have e5 := u8_id h5
  have e6 := u8_id h6
  have o0 : On w.heap.size w (w.alloc (.cells #[.int .i32 0, .int .i32 0, .int .i32 0, .int .i32 0, .int .u8 0, .int .u8 0, .int .u8 0] 24)).drew := on_drewB (on_alloc (On.refl _ _))
  clear h4 h5 h6 hc
  go_enter Tryd.func43, Tryd.ntmps43
  go_wp2_with fail
  go_region_held3 (fun w' => On w.heap.size w w') (first | with_reducible assumption | (repeat' (first | with_reducible assumption | with_reducible exact On.refl _ _ | with_reducible refine on_drewB ?_ | with_reducible refine on_alloc ?_ | (refine Below.setCell ?_ (Nat.le_refl _) _)))) (fail)
  go_wp2
  refine bodyPost_ret (v := pv p) (by simp [results, Tryd.results43, go_sem, pv]) rfl ?_
  exact ⟨rfl, grown_mk _ _⟩
theorem info_Player : (Tryd.prog.info? 24).map (fun i => (i.zero, i.size, i.bytes)) = some (some (.agg #[.int .i32 0, .int .i32 0, .int .i32 0, .int .i32 0, .int .u8 0, .int .u8 0, .int .u8 0]), 7, 20) := by kernel_rfl
def Pcs (p : Pl) : List Value := [.int .i32 p.x, .int .i32 p.y, .int .i32 p.vx, .int .i32 p.vy, .int .u8 (p.h : Int), .int .u8 (p.c : Int), .int .u8 (p.f : Int)]
def Pall (l : List Pl) : List Value := l.flatMap Pcs
theorem Pall_snoc (l : List Pl) (p : Pl) : Pall (l ++ [p]) = Pall l ++ Pcs p := by simp [Pall]
theorem P_done {v : List Nat} (h : okM okN 7 0 v) : rowN 7 v = i32v (mkP v).nums ∧ (mkP v).fit := by
  obtain ⟨a0, r0, rfl, h0, a1, r1, rfl, h1, a2, r2, rfl, h2, a3, r3, rfl, h3, a4, r4, rfl, h4, a5, r5, rfl, h5, a6, r6, rfl, h6, rfl⟩ := h
  exact ⟨by simp [rowN, nvs, nvI, mkP, Pl.nums], wrap32_fit _, wrap32_fit _, wrap32_fit _, wrap32_fit _, h4, h5, h6⟩
set_option maxHeartbeats 2000000 in
set_option maxRecDepth 20000 in
theorem takePl (r n : Nat) (l : List UInt8) (e : Int) (w : World) (h : Rd w r l e) (hn : n ≤ 8) :
    Calls Tryd.prog 42 #[.pointer (some ⟨r, 0, none⟩), .int .u64 n, .int .i64 7, .func (.func 43) #[] #[]] w fun E w' =>
      ∃ ao cap, E = .returned (.slice ao n cap) ∧ w'.ownsRow w.heap.size 24 7 (.slice ao n cap) n (Pall ((many (fun _ => pR) n 0 l).val.map mkP)) ∧ Rd w' r (many (fun _ => pR) n 0 l).rest (fin e (many (fun _ => pR) n 0 l).err) ∧ w.grownBy w' (some r) := by
  have hrw := h.1.lt
  have hmk : ∀ W : World, (Instr.makeSlice 86 (.int .i64 7) (.int .i64 7)).run Tryd.prog W = .ok (.slice (some ⟨W.heap.size, 0, none⟩) 7 7) (W.alloc (.cells (rowN 7 []) 21)) := fun W => by
    rw [rowN_nil]; exact run_make_row' (P := Tryd.prog) 86 21 (.int .i32 0) 4 Tryd.underlying86 info_i32 rfl .i64 .i64 7 (by decide) (by decide) W
  go_enter Tryd.func42, Tryd.ntmps42
  go_wp2
  go_loopw [9, 13] (fun v c wr => ∃ (k : Nat) (ao : Option Addr) (cap : Nat), k ≤ n ∧ c = .int .u64 k ∧ v = .slice ao k cap ∧ Hid (wr.ownsRow w.heap.size 24 7 (.slice ao k cap) k (Pall ((many (fun _ => pR) k 0 l).val.map mkP))) ∧ Hid (Rd wr r (many (fun _ => pR) k 0 l).rest (fin e (many (fun _ => pR) k 0 l).err)) ∧ Hid (w.grownBy wr (some r))) (fun _ c _ => n - (intOf c).toNat)
  case atStart => exact ⟨0, none, 0, by omega, rfl, rfl, World.ownsRow_nil _ _ _ _, (show Rd _ _ _ _ by simpa [many, fin_zero] using h), grown_refl _ _⟩
  case round =>
    obtain ⟨k, ao, cap, hk, rfl, rfl, HO, HR, HG⟩ := hrel
    obtain ⟨w0, rfl⟩ : ∃ w0, w0 = wr := ⟨_, rfl⟩
    by_cases hlt : k < n
    · have HSV : Hid ((many (fun _ => pR) (k + 1) 0 l).val = (many (fun _ => pR) k 0 l).val ++ [(pR (many (fun _ => pR) k 0 l).rest).val]) := many_val (fun _ => pR) k 0 l
      have HSR : Hid ((many (fun _ => pR) (k + 1) 0 l).rest = (pR (many (fun _ => pR) k 0 l).rest).rest) := many_rest (fun _ => pR) k 0 l
      have HSE : Hid ((many (fun _ => pR) (k + 1) 0 l).err = fin (many (fun _ => pR) k 0 l).err (pR (many (fun _ => pR) k 0 l).rest).err) := many_err (fun _ => pR) k 0 l
      clear h
      generalize many (fun _ => pR) k 0 l = Q at *
      go_wp2
      go_loopw [18] (fun c wx => ∃ j : Nat, j ≤ 7 ∧ c = .int .i64 j ∧ Hid (Cells wx w0.heap.size 21 (rowN 7 (many (fun i => num (wd i)) j 0 Q.rest).val)) ∧ Hid (Rd wx r (many (fun i => num (wd i)) j 0 Q.rest).rest (fin (fin e Q.err) (many (fun i => num (wd i)) j 0 Q.rest).err)) ∧ Hid (w0.grownBy wx (some r))) (fun c _ => 7 - (intOf c).toNat)
      case atStart => exact ⟨0, by omega, rfl, Cells.made _ _ _, (show Rd _ _ _ _ by simpa [many, fin_zero] using rd_on HR.out (grown_alloc _ _)), grown_any (grown_alloc _ _)⟩
      case round =>
        obtain ⟨j, hj, rfl, HC, HR2, HG2⟩ := hrel
        have hrr : w0.heap.size ≠ r := fun e => by have := HG.out.size; omega
        by_cases hlt2 : j < 7
        · have HSJ := Lib.hid (many_snoc (fun i => num (wd i)) j 0 Q.rest)
          have hlen := many_len (fun i => num (wd i)) j 0 Q.rest
          generalize many (fun i => num (wd i)) j 0 Q.rest = M at *
          obtain ⟨ME, MV, MR⟩ := M
          dsimp only at HC HR2 HSJ hlen
          by_cases h4 : j < 4
          · have HW : Hid (wd (0 + j) = 4) := by show _ = _; unfold wd; rw [if_pos (by omega)]
            have hv : nvI j (num 4 MR).val = wrap32 ((num 4 MR).val : Int) := if_pos h4
            have HST := Lib.hid (rowN_set 7 MV (num 4 MR).val (by omega))
            rw [hlen, hv] at HST
            rw [HW.out] at HSJ
            have hln : (rowN 7 MV)[j]? = some (.int .i32 0) := rowN_at 7 MV j hlen hlt2
            clear hv
            go_wp2_with fail
            refine (rdI32 r MR _ _ HR2.out).mono ?_
            rintro E w2 ⟨rfl, hr2⟩
            have HR3 := Lib.hid hr2
            have hc2 := HC.out.grown hr2.2 (by simpa using hrr)
            have hgl := hc2.lt
            have f0 := hc2.frozen j
            have c0 : w2.cell? ⟨w0.heap.size, j, none⟩ = some (.int .i32 0) := by rw [hc2.cell, hln]
            have HC2 := Lib.hid hc2
            clear hr2 hc2 hlen hln
            go_wp2
            go_roundw
            case rel =>
              refine ⟨j + 1, by omega, by go_num, ?_, ?_, ?_⟩
              · rw [HSJ.out]
                show Cells _ _ _ (rowN 7 (MV ++ [_]))
                rw [← HST.out]
                exact HC2.out.set j _
              · rw [HSJ.out]
                show Rd _ r (num 4 MR).rest (fin (fin e Q.err) (fin ME (num 4 MR).err))
                rw [← fin_fin]
                exact ⟨HR3.out.1.1.far (Ne.symm hrr) _, HR3.out.1.2⟩
              · exact grown_setNew (HG2.out.trans HR3.out.2) (Nat.le_refl _)
            case measure => simp [intOf]; omega
          · have HW : Hid (wd (0 + j) = 1) := by show _ = _; unfold wd; rw [if_neg (by omega)]
            have hv : nvI j (num 1 MR).val = ((num 1 MR).val : Int) := if_neg h4
            have HST := Lib.hid (rowN_set 7 MV (num 1 MR).val (by omega))
            rw [hlen, hv] at HST
            rw [HW.out] at HSJ
            have hln : (rowN 7 MV)[j]? = some (.int .i32 0) := rowN_at 7 MV j hlen hlt2
            have hcv := i32_id (n := (num 1 MR).val) (by simpa using num_lt 1 MR)
            clear hv
            go_wp2_with fail
            refine (rdU8 r MR _ _ HR2.out).mono ?_
            rintro E w2 ⟨rfl, hr2⟩
            have HR3 := Lib.hid hr2
            have hc2 := HC.out.grown hr2.2 (by simpa using hrr)
            have hgl := hc2.lt
            have f0 := hc2.frozen j
            have c0 : w2.cell? ⟨w0.heap.size, j, none⟩ = some (.int .i32 0) := by rw [hc2.cell, hln]
            have HC2 := Lib.hid hc2
            clear hr2 hc2 hlen hln
            go_wp2
            go_roundw
            case rel =>
              refine ⟨j + 1, by omega, by go_num, ?_, ?_, ?_⟩
              · rw [HSJ.out]
                show Cells _ _ _ (rowN 7 (MV ++ [_]))
                rw [← HST.out]
                exact HC2.out.set j _
              · rw [HSJ.out]
                show Rd _ r (num 1 MR).rest (fin (fin e Q.err) (fin ME (num 1 MR).err))
                rw [← fin_fin]
                exact ⟨HR3.out.1.1.far (Ne.symm hrr) _, HR3.out.1.2⟩
              · exact grown_setNew (HG2.out.trans HR3.out.2) (Nat.le_refl _)
            case measure => simp [intOf]; omega
        · obtain rfl : j = 7 := by omega
          have hfit := P_done (many_lt 7 0 Q.rest)
          have HC3 : Hid (Cells wr w0.heap.size 21 (i32v (mkP (pR Q.rest).val).nums)) := by show Cells _ _ _ _; rw [← hfit.1]; exact HC.out
          have HF := Lib.hid hfit.2
          have HXE : Hid ((Q.val ++ [(pR Q.rest).val]).map mkP = Q.val.map mkP ++ [mkP (pR Q.rest).val]) := by show _ = _; simp
          have HRE : Hid (Rd wr r (pR Q.rest).rest (fin (fin e Q.err) (pR Q.rest).err)) := HR2.out
          have HO3 := Lib.hid (kept_row HO.out HG2.out hrw)
          have hrw0 : w.heap.size ≤ w0.heap.size := HG.out.size
          have hw0r : w0.heap.size ≤ wr.heap.size := HG2.out.size
          clear hfit HC hmk HR2 HR HO
          generalize hqv : (pR Q.rest).val = qv at *
          generalize (pR Q.rest).rest = qr at *
          generalize (pR Q.rest).err = qe at *
          clear hqv
          generalize mkP qv = x at *
          generalize hold : Pall (Q.val.map mkP) = old at *
          have HOE := Lib.hid hold
          clear hold
          go_wp2_with fail
          refine (toPlayer_c w0.heap.size x _ HC3.out HF.out.2.2.2.2.1 HF.out.2.2.2.2.2.1 HF.out.2.2.2.2.2.2).mono ?_
          rintro E w2 ⟨rfl, hb2⟩
          have hown := World.ownsRow.kept HO3.out hb2 (Classical.em _)
          have HB2 := Lib.hid hb2
          have hsz2 : w0.heap.size ≤ w2.heap.size := Nat.le_trans hw0r hb2.size
          clear hb2
          obtain ⟨i0, hi0, hz0, hz1, hz2⟩ := info_parts info_Player
          have HI0 := Lib.hid hi0
          have HZ0 := Lib.hid hz0
          have HZ1 := Lib.hid hz1
          have HZ2 := Lib.hid hz2
          clear hi0 hz0 hz1 hz2
          have hb1 : k + 1 ≤ maxLen := by simp only [maxLen]; omega
          have hb2 : (k + 1) * 20 ≤ 140737488355328 := by omega
          unfold pv
          go_wp2_with (at_builtin; refine wpList_append_lies _ rfl (.tmp 35) (.tmp 39) 52 rfl w.heap.size 24 i0 (.agg #[.int .i32 0, .int .i32 0, .int .i32 0, .int .i32 0, .int .u8 0, .int .u8 0, .int .u8 0]) 7 20 Tryd.underlying52 HI0.out HZ0.out HZ1.out HZ2.out rfl (by decide) _ _ _ (by simp [Act.eval]) (World.ownsRow.alloc hown _) ⟨w2.heap.size, 0, none⟩ 1 1 (Pcs x) (by simp [Act.eval]) rfl (World.news_of_block (heap_alloc_new _ _)) (by simp [Pcs, Value.oneCell']) (by decide) hb1 hb2 (by simp; omega) _ rfl ?_; intro g' cap' w3 hown1 hgr hat hlt1)
          have hob : ∀ q, (Value.slice ao k cap).ownBlock = some q → w.heap.size ≤ q := fun q e => (hown.lt q e).1
          have HG3 := Lib.hid hgr
          have HO4 := Lib.hid hown1
          have HOB := Lib.hid hob
          clear hgr hat hown1 hob hown
          go_wp2
          go_roundw
          case rel =>
            refine ⟨k + 1, some ⟨g', 0, none⟩, cap', by omega, by go_num, by go_num, ?_, ?_, ?_⟩
            · rw [HSV.out, HXE.out, Pall_snoc, HOE.out]
              exact HO4.out
            · rw [HSR.out, HSE.out, ← fin_fin]
              have h1 := rd_on (rd_on HRE.out HB2.out) (grown_alloc w2 (.cells #[.int .i32 x.x, .int .i32 x.y, .int .i32 x.vx, .int .i32 x.vy, .int .u8 (x.h : Int), .int .u8 (x.c : Int), .int .u8 (x.f : Int)] 24))
              exact ⟨h1.1.grown HG3.out (fun q => by have := HOB.out r q.symm; omega), h1.2⟩
            · exact grown_row (((HG.out.trans HG2.out).trans (grown_any HB2.out)).trans (grown_any (grown_alloc _ _))) HG3.out HOB.out
          case measure => simp [intOf]; omega
    · have hx : k = n := by omega
      subst hx
      clear h
      go_wp2
      go_ret
      exact ⟨ao, cap, rfl, HO.out, HR.out, HG.out⟩

set_option maxHeartbeats 1000000 in
set_option maxRecDepth 20000 in
theorem toShot_c (g : Nat) (p : Sh) (w : World) (hc : Cells w g 21 (i32v p.nums)) (h4 : p.o < 256) (h5 : p.l < 256) :
    Calls Tryd.prog 46 #[.slice (some ⟨g, 0, none⟩) 6 6] w fun E w' => E = .returned (hv p) ∧ w.grownBy w' none := by
  have a0 : ∀ w', On w.heap.size w w' → w'.cell? ⟨g, 0, none⟩ = some (.int .i32 p.x) := on_cell hc hc.lt 0 rfl
  have a1 : ∀ w', On w.heap.size w w' → w'.cell? ⟨g, 1, none⟩ = some (.int .i32 p.y) := on_cell hc hc.lt 1 rfl
  have a2 : ∀ w', On w.heap.size w w' → w'.cell? ⟨g, 2, none⟩ = some (.int .i32 p.vx) := on_cell hc hc.lt 2 rfl
  have a3 : ∀ w', On w.heap.size w w' → w'.cell? ⟨g, 3, none⟩ = some (.int .i32 p.vy) := on_cell hc hc.lt 3 rfl
  have a4 : ∀ w', On w.heap.size w w' → w'.cell? ⟨g, 4, none⟩ = some (.int .i32 (p.o : Int)) := on_cell hc hc.lt 4 rfl
  have a5 : ∀ w', On w.heap.size w w' → w'.cell? ⟨g, 5, none⟩ = some (.int .i32 (p.l : Int)) := on_cell hc hc.lt 5 rfl
  have e4 := u8_id h4
  have e5 := u8_id h5
  have o0 : On w.heap.size w (w.alloc (.cells #[.int .i32 0, .int .i32 0, .int .i32 0, .int .i32 0, .int .u8 0, .int .u8 0] 46)).drew := on_drewB (on_alloc (On.refl _ _))
  clear h4 h5 hc
  go_enter Tryd.func46, Tryd.ntmps46
  go_wp2_with fail
  go_region_held3 (fun w' => On w.heap.size w w') (first | with_reducible assumption | (repeat' (first | with_reducible assumption | with_reducible exact On.refl _ _ | with_reducible refine on_drewB ?_ | with_reducible refine on_alloc ?_ | (refine Below.setCell ?_ (Nat.le_refl _) _)))) (fail)
  go_wp2
  refine bodyPost_ret (v := hv p) (by simp [results, Tryd.results46, go_sem, hv]) rfl ?_
  exact ⟨rfl, grown_mk _ _⟩
theorem info_Shot : (Tryd.prog.info? 46).map (fun i => (i.zero, i.size, i.bytes)) = some (some (.agg #[.int .i32 0, .int .i32 0, .int .i32 0, .int .i32 0, .int .u8 0, .int .u8 0]), 6, 20) := by kernel_rfl
def Hcs (p : Sh) : List Value := [.int .i32 p.x, .int .i32 p.y, .int .i32 p.vx, .int .i32 p.vy, .int .u8 (p.o : Int), .int .u8 (p.l : Int)]
def Hall (l : List Sh) : List Value := l.flatMap Hcs
theorem Hall_snoc (l : List Sh) (p : Sh) : Hall (l ++ [p]) = Hall l ++ Hcs p := by simp [Hall]
theorem H_done {v : List Nat} (h : okM okN 6 0 v) : rowN 6 v = i32v (mkH v).nums ∧ (mkH v).fit := by
  obtain ⟨a0, r0, rfl, h0, a1, r1, rfl, h1, a2, r2, rfl, h2, a3, r3, rfl, h3, a4, r4, rfl, h4, a5, r5, rfl, h5, rfl⟩ := h
  exact ⟨by simp [rowN, nvs, nvI, mkH, Sh.nums], wrap32_fit _, wrap32_fit _, wrap32_fit _, wrap32_fit _, h4, h5⟩
set_option maxHeartbeats 2000000 in
set_option maxRecDepth 20000 in
theorem takeSh (r n : Nat) (l : List UInt8) (e : Int) (w : World) (h : Rd w r l e) (hn : n ≤ 8) :
    Calls Tryd.prog 45 #[.pointer (some ⟨r, 0, none⟩), .int .u64 n, .int .i64 6, .func (.func 46) #[] #[]] w fun E w' =>
      ∃ ao cap, E = .returned (.slice ao n cap) ∧ w'.ownsRow w.heap.size 46 6 (.slice ao n cap) n (Hall ((many (fun _ => hR) n 0 l).val.map mkH)) ∧ Rd w' r (many (fun _ => hR) n 0 l).rest (fin e (many (fun _ => hR) n 0 l).err) ∧ w.grownBy w' (some r) := by
  have hrw := h.1.lt
  have hmk : ∀ W : World, (Instr.makeSlice 86 (.int .i64 6) (.int .i64 6)).run Tryd.prog W = .ok (.slice (some ⟨W.heap.size, 0, none⟩) 6 6) (W.alloc (.cells (rowN 6 []) 21)) := fun W => by
    rw [rowN_nil]; exact run_make_row' (P := Tryd.prog) 86 21 (.int .i32 0) 4 Tryd.underlying86 info_i32 rfl .i64 .i64 6 (by decide) (by decide) W
  go_enter Tryd.func45, Tryd.ntmps45
  go_wp2
  go_loopw [9, 13] (fun v c wr => ∃ (k : Nat) (ao : Option Addr) (cap : Nat), k ≤ n ∧ c = .int .u64 k ∧ v = .slice ao k cap ∧ Hid (wr.ownsRow w.heap.size 46 6 (.slice ao k cap) k (Hall ((many (fun _ => hR) k 0 l).val.map mkH))) ∧ Hid (Rd wr r (many (fun _ => hR) k 0 l).rest (fin e (many (fun _ => hR) k 0 l).err)) ∧ Hid (w.grownBy wr (some r))) (fun _ c _ => n - (intOf c).toNat)
  case atStart => exact ⟨0, none, 0, by omega, rfl, rfl, World.ownsRow_nil _ _ _ _, (show Rd _ _ _ _ by simpa [many, fin_zero] using h), grown_refl _ _⟩
  case round =>
    obtain ⟨k, ao, cap, hk, rfl, rfl, HO, HR, HG⟩ := hrel
    obtain ⟨w0, rfl⟩ : ∃ w0, w0 = wr := ⟨_, rfl⟩
    by_cases hlt : k < n
    · have HSV : Hid ((many (fun _ => hR) (k + 1) 0 l).val = (many (fun _ => hR) k 0 l).val ++ [(hR (many (fun _ => hR) k 0 l).rest).val]) := many_val (fun _ => hR) k 0 l
      have HSR : Hid ((many (fun _ => hR) (k + 1) 0 l).rest = (hR (many (fun _ => hR) k 0 l).rest).rest) := many_rest (fun _ => hR) k 0 l
      have HSE : Hid ((many (fun _ => hR) (k + 1) 0 l).err = fin (many (fun _ => hR) k 0 l).err (hR (many (fun _ => hR) k 0 l).rest).err) := many_err (fun _ => hR) k 0 l
      clear h
      generalize many (fun _ => hR) k 0 l = Q at *
      go_wp2
      go_loopw [18] (fun c wx => ∃ j : Nat, j ≤ 6 ∧ c = .int .i64 j ∧ Hid (Cells wx w0.heap.size 21 (rowN 6 (many (fun i => num (wd i)) j 0 Q.rest).val)) ∧ Hid (Rd wx r (many (fun i => num (wd i)) j 0 Q.rest).rest (fin (fin e Q.err) (many (fun i => num (wd i)) j 0 Q.rest).err)) ∧ Hid (w0.grownBy wx (some r))) (fun c _ => 6 - (intOf c).toNat)
      case atStart => exact ⟨0, by omega, rfl, Cells.made _ _ _, (show Rd _ _ _ _ by simpa [many, fin_zero] using rd_on HR.out (grown_alloc _ _)), grown_any (grown_alloc _ _)⟩
      case round =>
        obtain ⟨j, hj, rfl, HC, HR2, HG2⟩ := hrel
        have hrr : w0.heap.size ≠ r := fun e => by have := HG.out.size; omega
        by_cases hlt2 : j < 6
        · have HSJ := Lib.hid (many_snoc (fun i => num (wd i)) j 0 Q.rest)
          have hlen := many_len (fun i => num (wd i)) j 0 Q.rest
          generalize many (fun i => num (wd i)) j 0 Q.rest = M at *
          obtain ⟨ME, MV, MR⟩ := M
          dsimp only at HC HR2 HSJ hlen
          by_cases h4 : j < 4
          · have HW : Hid (wd (0 + j) = 4) := by show _ = _; unfold wd; rw [if_pos (by omega)]
            have hv : nvI j (num 4 MR).val = wrap32 ((num 4 MR).val : Int) := if_pos h4
            have HST := Lib.hid (rowN_set 6 MV (num 4 MR).val (by omega))
            rw [hlen, hv] at HST
            rw [HW.out] at HSJ
            have hln : (rowN 6 MV)[j]? = some (.int .i32 0) := rowN_at 6 MV j hlen hlt2
            clear hv
            go_wp2_with fail
            refine (rdI32 r MR _ _ HR2.out).mono ?_
            rintro E w2 ⟨rfl, hr2⟩
            have HR3 := Lib.hid hr2
            have hc2 := HC.out.grown hr2.2 (by simpa using hrr)
            have hgl := hc2.lt
            have f0 := hc2.frozen j
            have c0 : w2.cell? ⟨w0.heap.size, j, none⟩ = some (.int .i32 0) := by rw [hc2.cell, hln]
            have HC2 := Lib.hid hc2
            clear hr2 hc2 hlen hln
            go_wp2
            go_roundw
            case rel =>
              refine ⟨j + 1, by omega, by go_num, ?_, ?_, ?_⟩
              · rw [HSJ.out]
                show Cells _ _ _ (rowN 6 (MV ++ [_]))
                rw [← HST.out]
                exact HC2.out.set j _
              · rw [HSJ.out]
                show Rd _ r (num 4 MR).rest (fin (fin e Q.err) (fin ME (num 4 MR).err))
                rw [← fin_fin]
                exact ⟨HR3.out.1.1.far (Ne.symm hrr) _, HR3.out.1.2⟩
              · exact grown_setNew (HG2.out.trans HR3.out.2) (Nat.le_refl _)
            case measure => simp [intOf]; omega
          · have HW : Hid (wd (0 + j) = 1) := by show _ = _; unfold wd; rw [if_neg (by omega)]
            have hv : nvI j (num 1 MR).val = ((num 1 MR).val : Int) := if_neg h4
            have HST := Lib.hid (rowN_set 6 MV (num 1 MR).val (by omega))
            rw [hlen, hv] at HST
            rw [HW.out] at HSJ
            have hln : (rowN 6 MV)[j]? = some (.int .i32 0) := rowN_at 6 MV j hlen hlt2
            have hcv := i32_id (n := (num 1 MR).val) (by simpa using num_lt 1 MR)
            clear hv
            go_wp2_with fail
            refine (rdU8 r MR _ _ HR2.out).mono ?_
            rintro E w2 ⟨rfl, hr2⟩
            have HR3 := Lib.hid hr2
            have hc2 := HC.out.grown hr2.2 (by simpa using hrr)
            have hgl := hc2.lt
            have f0 := hc2.frozen j
            have c0 : w2.cell? ⟨w0.heap.size, j, none⟩ = some (.int .i32 0) := by rw [hc2.cell, hln]
            have HC2 := Lib.hid hc2
            clear hr2 hc2 hlen hln
            go_wp2
            go_roundw
            case rel =>
              refine ⟨j + 1, by omega, by go_num, ?_, ?_, ?_⟩
              · rw [HSJ.out]
                show Cells _ _ _ (rowN 6 (MV ++ [_]))
                rw [← HST.out]
                exact HC2.out.set j _
              · rw [HSJ.out]
                show Rd _ r (num 1 MR).rest (fin (fin e Q.err) (fin ME (num 1 MR).err))
                rw [← fin_fin]
                exact ⟨HR3.out.1.1.far (Ne.symm hrr) _, HR3.out.1.2⟩
              · exact grown_setNew (HG2.out.trans HR3.out.2) (Nat.le_refl _)
            case measure => simp [intOf]; omega
        · obtain rfl : j = 6 := by omega
          have hfit := H_done (many_lt 6 0 Q.rest)
          have HC3 : Hid (Cells wr w0.heap.size 21 (i32v (mkH (hR Q.rest).val).nums)) := by show Cells _ _ _ _; rw [← hfit.1]; exact HC.out
          have HF := Lib.hid hfit.2
          have HXE : Hid ((Q.val ++ [(hR Q.rest).val]).map mkH = Q.val.map mkH ++ [mkH (hR Q.rest).val]) := by show _ = _; simp
          have HRE : Hid (Rd wr r (hR Q.rest).rest (fin (fin e Q.err) (hR Q.rest).err)) := HR2.out
          have HO3 := Lib.hid (kept_row HO.out HG2.out hrw)
          have hrw0 : w.heap.size ≤ w0.heap.size := HG.out.size
          have hw0r : w0.heap.size ≤ wr.heap.size := HG2.out.size
          clear hfit HC hmk HR2 HR HO
          generalize hqv : (hR Q.rest).val = qv at *
          generalize (hR Q.rest).rest = qr at *
          generalize (hR Q.rest).err = qe at *
          clear hqv
          generalize mkH qv = x at *
          generalize hold : Hall (Q.val.map mkH) = old at *
          have HOE := Lib.hid hold
          clear hold
          go_wp2_with fail
          refine (toShot_c w0.heap.size x _ HC3.out HF.out.2.2.2.2.1 HF.out.2.2.2.2.2).mono ?_
          rintro E w2 ⟨rfl, hb2⟩
          have hown := World.ownsRow.kept HO3.out hb2 (Classical.em _)
          have HB2 := Lib.hid hb2
          have hsz2 : w0.heap.size ≤ w2.heap.size := Nat.le_trans hw0r hb2.size
          clear hb2
          obtain ⟨i0, hi0, hz0, hz1, hz2⟩ := info_parts info_Shot
          have HI0 := Lib.hid hi0
          have HZ0 := Lib.hid hz0
          have HZ1 := Lib.hid hz1
          have HZ2 := Lib.hid hz2
          clear hi0 hz0 hz1 hz2
          have hb1 : k + 1 ≤ maxLen := by simp only [maxLen]; omega
          have hb2 : (k + 1) * 20 ≤ 140737488355328 := by omega
          unfold hv
          go_wp2_with (at_builtin; refine wpList_append_lies _ rfl (.tmp 35) (.tmp 39) 26 rfl w.heap.size 46 i0 (.agg #[.int .i32 0, .int .i32 0, .int .i32 0, .int .i32 0, .int .u8 0, .int .u8 0]) 6 20 Tryd.underlying26 HI0.out HZ0.out HZ1.out HZ2.out rfl (by decide) _ _ _ (by simp [Act.eval]) (World.ownsRow.alloc hown _) ⟨w2.heap.size, 0, none⟩ 1 1 (Hcs x) (by simp [Act.eval]) rfl (World.news_of_block (heap_alloc_new _ _)) (by simp [Hcs, Value.oneCell']) (by decide) hb1 hb2 (by simp; omega) _ rfl ?_; intro g' cap' w3 hown1 hgr hat hlt1)
          have hob : ∀ q, (Value.slice ao k cap).ownBlock = some q → w.heap.size ≤ q := fun q e => (hown.lt q e).1
          have HG3 := Lib.hid hgr
          have HO4 := Lib.hid hown1
          have HOB := Lib.hid hob
          clear hgr hat hown1 hob hown
          go_wp2
          go_roundw
          case rel =>
            refine ⟨k + 1, some ⟨g', 0, none⟩, cap', by omega, by go_num, by go_num, ?_, ?_, ?_⟩
            · rw [HSV.out, HXE.out, Hall_snoc, HOE.out]
              exact HO4.out
            · rw [HSR.out, HSE.out, ← fin_fin]
              have h1 := rd_on (rd_on HRE.out HB2.out) (grown_alloc w2 (.cells #[.int .i32 x.x, .int .i32 x.y, .int .i32 x.vx, .int .i32 x.vy, .int .u8 (x.o : Int), .int .u8 (x.l : Int)] 46))
              exact ⟨h1.1.grown HG3.out (fun q => by have := HOB.out r q.symm; omega), h1.2⟩
            · exact grown_row (((HG.out.trans HG2.out).trans (grown_any HB2.out)).trans (grown_any (grown_alloc _ _))) HG3.out HOB.out
          case measure => simp [intOf]; omega
    · have hx : k = n := by omega
      subst hx
      clear h
      go_wp2
      go_ret
      exact ⟨ao, cap, rfl, HO.out, HR.out, HG.out⟩
end Go.Proofs.YtbmkmmkebophpaaDoor
