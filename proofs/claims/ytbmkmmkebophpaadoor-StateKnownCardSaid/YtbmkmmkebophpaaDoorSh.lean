/- The document's Check, and what its Put leans on: contracts; words for drawn regions whose calls make memory. -/
import Derived.Test.YtbmkmmkebophpaaDoorSg
import Derived.Deep.DeepCutAuto
namespace Go.Proofs.YtbmkmmkebophpaaDoor
open Go.RowKit
set_option linter.unusedVariables false

/-! What is below block B stays as it was in the world wd. -/
def On (B : Nat) (wd w' : World) : Prop := Below B wd w'
section
variable {B : Nat} {w wd w1 w2 w' : World} {g : Nat} {t : TypeId} {cs : Array Value}
theorem On.refl (B : Nat) (w : World) : On B w w := Below.refl _ _
theorem On.drew (B : Nat) (w : World) : On B w w.drew := (Below.refl _ w).drew
theorem on_step (h : On wd.heap.size wd w1) (hb : w1.grownBy w2 none) : On wd.heap.size wd w2 := Below.trans h ((below_of_grown hb).mono h.size)
theorem on_alloc {o : Obj} (h : On wd.heap.size wd w1) : On wd.heap.size wd (w1.alloc o) := on_step h (grown_alloc _ _)
theorem on_drewB (h : On B w w') : On B w w'.drew := Below.drew h
theorem on_size (h : On B w w') : w.heap.size ≤ w'.heap.size := Below.size h
theorem on_cell (h : Cells wd g t cs) (hg : g < B) (i : Nat) {v : Value} (hv : cs[i]? = some v) : ∀ w', On B wd w' → w'.cell? ⟨g, i, none⟩ = some v := fun _ o => by rw [(h.below o hg).cell, hv]
theorem on_grown (o : On wd.heap.size wd w') : wd.grownBy w' none := grown_of_below o
theorem keep_row (h : w1.grownBy w2 none) : ∀ g, g < w1.heap.size → rowOf w2 g = rowOf w1 g := fun g hg => by
  unfold rowOf; rw [h.block g hg (by simp)]
theorem keep_lt (h : w1.grownBy w2 none) : ∀ n, n < w1.heap.size → n < w2.heap.size := fun n hn => Nat.lt_of_lt_of_le hn h.size
theorem drew_size (w : World) : w.drew.heap.size = w.heap.size := rfl
theorem alloc_size (w : World) (o : Obj) : (w.alloc o).heap.size = w.heap.size + 1 := by simp
end
/-! A row of bytes turned into a string. -/
def byteV : Value → Nat
  | .int _ z => z.toNat
  | _ => 0
def strOf (cs : Array Value) : ByteArray := str (cs.toList.map fun v => UInt8.ofNat (byteV v))
def allU8 : List Value → Bool
  | [] => true
  | .int .u8 z :: r => decide (0 ≤ z ∧ z < 256) && allU8 r
  | _ => false
theorem allU8_map : ∀ (l : List Value), allU8 l = true → l = bvs (l.map fun v => UInt8.ofNat (byteV v))
  | [], _ => rfl
  | .int .u8 z :: r, h => by
    simp only [allU8, Bool.and_eq_true, decide_eq_true_eq] at h
    have e := allU8_map r h.2
    show Value.int .u8 z :: r = bv (UInt8.ofNat z.toNat) :: bvs (r.map fun v => UInt8.ofNat (byteV v))
    rw [← e]
    have e2 : bv (UInt8.ofNat z.toNat) = .int .u8 z := by
      unfold bv
      rw [show ((UInt8.ofNat z.toNat).toNat : Int) = z by simp; omega]
    rw [e2]
set_option maxRecDepth 100000 in
theorem run_conv (w : World) (g n : Nat) (hn : (rowOf w g).size = n) (h0 : 0 < n) (ha : allU8 (rowOf w g).toList = true) :
    (convert 58 9 (.slice (some ⟨g, 0, none⟩) n n)).run Tryd.prog w = .ok (.string (strOf (rowOf w g))) w := by
  obtain ⟨cs, t, fr, hg⟩ := rowOf_shape hn h0
  have e : rowOf w g = cs := by unfold rowOf; rw [hg]
  rw [e] at hn ha ⊢
  have hm := allU8_map _ ha
  unfold strOf
  generalize hb : cs.toList.map (fun v => UInt8.ofNat (byteV v)) = bs at *
  have hl : bs.length = n := by rw [← hb, List.length_map, Array.length_toList, hn]
  rw [← hl]
  refine run_convert_bytes_back w _ _ 5 _ _ bs Tryd.underlying58 Tryd.underlying5 Tryd.underlying9 (fun j hj => ?_)
  have hadd : (⟨g, 0, none⟩ : Addr).add j = ⟨g, j, none⟩ := by unfold Addr.add; split <;> simp_all
  have h2 : cs.toList[j]? = (bvs bs)[j]? := congrArg (fun l : List Value => l[j]?) hm
  have h3 : (bvs bs)[j]? = some (bv (bs[j]'hj)) := by unfold bvs; rw [List.getElem?_map, List.getElem?_eq_getElem hj]; rfl
  rw [hadd, cell_of_row w g j cs t fr hg, ← Array.getElem?_toList, h2, h3]
  rfl
theorem strOf2 (a b : Nat) : strOf #[.int .u8 (a : Int), .int .u8 (b : Int)] = str [UInt8.ofNat a, UInt8.ofNat b] := by simp [strOf, byteV]
theorem strOf3 (a b c : Nat) : strOf #[.int .u8 (a : Int), .int .u8 (b : Int), .int .u8 (c : Int)] = str [UInt8.ofNat a, UInt8.ofNat b, UInt8.ofNat c] := by simp [strOf, byteV]
theorem allU8_cons (a : Nat) (r : List Value) : allU8 (.int .u8 (a : Int) :: r) = (decide (a < 256) && allU8 r) := by
  have e : decide (0 ≤ (a : Int) ∧ (a : Int) < 256) = decide (a < 256) := decide_eq_decide.2 (by omega)
  simp only [allU8, e]
theorem allU8_nil : allU8 [] = true := rfl

/-- A number of 32 bits with a sign, by the document. -/
theorem signed_c (z : Int) (w : World) : Calls Tryd.prog 38 #[.int .i32 z] w fun E w' => E = .returned (.string (str (le 4 (un32 z)))) ∧ w.grownBy w' none := by
  have e1 : IntKind.u64.wrap (IntKind.u32.wrap z) = (un32 z : Int) := by
    unfold un32
    simp [IntKind.wrap, IntKind.bits, IntKind.signed]
    omega
  have e2 : IntKind.u32.wrap z = (un32 z : Int) := by
    unfold un32
    simp [IntKind.wrap, IntKind.bits, IntKind.signed]
    omega
  have hlt := un32_lt z
  generalize un32 z = n at *
  have H := refNumber n 4 w (by omega) (by omega)
  go_enter Tryd.func38, Tryd.ntmps38
  go_wp2_with fail
  refine H.mono ?_
  rintro E w1 ⟨rfl, hb⟩
  go_wp2
  go_ret
  exact ⟨rfl, hb⟩
set_option maxHeartbeats 1000000 in
set_option maxRecDepth 20000 in
theorem refCheck (s : St) (ao : Option Addr) (cap : Nat) (w : World) (h : Shs w ao s.ss) :
    Calls Tryd.prog 12 #[sv s ao cap] w fun E w' => E = .returned (.int .i64 (chk s)) ∧ w.grownBy w' none := by
  by_cases h8 : 8 < s.ss.length
  · rw [chk_few h8]
    go_enter Tryd.func12, Tryd.ntmps12
    go_wp2
    go_ret
    exact ⟨rfl, grown_alloc _ _⟩
  · have hB := bk_made w s ao cap
    have HS := Lib.hid (Shs_grown h (grown_alloc w (.cells (stc s ao cap) 30)) (by simp))
    have HB := Lib.hid hB
    have C0 : Hid (∀ W, Calls Tryd.prog 29 #[pv s.p] W fun E w' => E = .returned (.bool s.p.good) ∧ W.grownBy w' none) := refPlayer s.p
    have C1 : Hid (∀ W, Calls Tryd.prog 29 #[pv s.q] W fun E w' => E = .returned (.bool s.q.good) ∧ W.grownBy w' none) := refPlayer s.q
    have HR : Hid (chk s = if (s.p.good && s.q.good && s.ss.all Sh.good) = true then 0 else 4) := by
      show _ = _
      rw [chk_of (by omega)]; simp
    rw [HR.out]
    have hd8 : decide ((8 : Int) < (s.ss.length : Int)) = false := decide_eq_false (by omega)
    clear hB h HR
    have HA1 : Hid (∀ k (h : k < s.ss.length), (s.ss[k]'h).good = false → s.ss.all Sh.good = false) := fun k h e => all_bad h e
    have HA2 : Hid ((s.ss.take s.ss.length).all Sh.good = true → s.ss.all Sh.good = true) := fun h => by rwa [List.take_length] at h
    generalize s.p.good = b0 at *
    generalize s.q.good = b1 at *
    generalize s.ss.all Sh.good = ba at *
    unfold pv at C0 C1
    go_enter Tryd.func12, Tryd.ntmps12
    go_wp2_with fail
    refine (C0.out _).mono ?_
    rintro E w1 ⟨rfl, hb1⟩
    cases b0
    · go_wp2
      go_ret
      exact ⟨rfl, (grown_alloc _ _).trans hb1⟩
    · obtain ⟨c0, c1, ⟨c2, c3, c4, c5, c6, c7, c8⟩, ⟨c9, c10, c11, c12, c13, c14, c15⟩, c16, c17, c18⟩ := bk_cells (bk_grown HB.out hb1 (by simp))
      have HB1 := Lib.hid hb1
      clear hb1
      go_wp2_with fail
      refine (C1.out _).mono ?_
      rintro E w2 ⟨rfl, hb2⟩
      have HB2 := Lib.hid (HB1.out.trans hb2)
      clear hb2 HB1 c0 c1 c2 c3 c4 c5 c6 c7 c8 c9 c10 c11 c12 c13 c14 c15 c16 c17 c18
      cases b1
      · go_wp2
        go_ret
        exact ⟨rfl, (grown_alloc _ _).trans HB2.out⟩
      · go_upto_region 3 with fail
        go_cut [1, 3] (fun s1 s3 wx => s1 = .pointer (some ⟨w.heap.size, 0, none⟩) ∧ s3 = .int .i64 (0 : Nat) ∧ Hid ((w.alloc (.cells (stc s ao cap) 30)).grownBy wx none))
        case first =>
          go_wp2_with fail
          all_goals go_meet
          all_goals exact ⟨rfl, rfl, HB2⟩
        case rest =>
        obtain ⟨rfl, rfl, HB2⟩ := hcut
        clear C0 C1
        go_wp2
        go_loopw [3] (fun v wr => ∃ k : Nat, k ≤ s.ss.length ∧ v = .int .i64 k ∧ Hid ((s.ss.take k).all Sh.good = true) ∧ Hid ((w.alloc (.cells (stc s ao cap) 30)).grownBy wr none)) (fun v _ => s.ss.length - (intOf v).toNat)
        case atStart => exact ⟨0, by omega, by first | rfl | assumption, by simp [Hid], HB2⟩
        case round =>
          obtain ⟨k, hk, rfl, hg, HW⟩ := hrel
          have c16 := (bk_cells (bk_grown HB.out HW.out (by simp))).2.2.2.2.1
          by_cases hlt : k < s.ss.length
          · obtain ⟨hfx, b, o, rfl, hc⟩ := Shs_grown HS.out HW.out (by simp) k hlt
            clear hfx
            have d0 : wr.cell? ⟨b, o + k * 6, none⟩ = _ := hc 0 _ rfl
            have d1 := hc 1 _ rfl
            have d2 := hc 2 _ rfl
            have d3 := hc 3 _ rfl
            have d4 := hc 4 _ rfl
            have d5 := hc 5 _ rfl
            have HN : Hid (((s.ss[k]'hlt).good = false → ba = false) ∧ ((s.ss[k]'hlt).good = true → (s.ss.take (k + 1)).all Sh.good = true)) := ⟨fun e => HA1.out k hlt e, fun e => all_next hlt hg.out e⟩
            clear hc hg
            generalize hs : (s.ss[k]'hlt) = x at *
            clear hs
            have C2 : Hid (∀ W, Calls Tryd.prog 30 #[hv x] W fun E w' => E = .returned (.bool x.good) ∧ W.grownBy w' none) := refShot x
            unfold hv at C2
            generalize x.good = b2 at *
            go_wp2_with fail
            refine (C2.out _).mono ?_
            rintro E w3 ⟨rfl, hb3⟩
            cases b2
            · obtain rfl := HN.out.1 rfl
              clear d0 d1 d2 d3 d4 d5 c16 HN
              go_wp2
              go_ret
              exact ⟨rfl, ((grown_alloc _ _).trans HW.out).trans hb3⟩
            · have HX := Lib.hid (HN.out.2 rfl)
              clear d0 d1 d2 d3 d4 d5 c16 HN
              go_wp2
              go_roundw
              case rel => exact ⟨k + 1, by omega, by go_num, HX, HW.out.trans hb3⟩
              case measure => simp [intOf]; omega
          · obtain rfl : k = s.ss.length := by omega
            obtain rfl := HA2.out hg.out
            clear hg hk hlt
            go_wp2
            go_ret
            exact ⟨rfl, (grown_alloc _ _).trans HW.out⟩
end Go.Proofs.YtbmkmmkebophpaaDoor
