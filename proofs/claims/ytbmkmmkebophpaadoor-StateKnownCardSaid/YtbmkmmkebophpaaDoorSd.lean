/- Whether all parts of players, of shots, are within their bounds; Check, and the document's: one contract each. -/
import Derived.Test.YtbmkmmkebophpaaDoorSc
import Derived.Test.YtbmkmmkebophpaaDoorRfD
namespace Go.Proofs.YtbmkmmkebophpaaDoor
open Go.RowKit
set_option linter.unusedVariables false

/-- The table of bounds lies in the program's one listed variable. -/
def Tab (w : World) : Prop := 0 < w.heap.size ∧ ∀ i : Nat, i < 13 → w.cell? ⟨0, i * 2, none⟩ = some (.int .i32 (lo i)) ∧ w.cell? ⟨0, i * 2 + 1, none⟩ = some (.int .i32 (hi i))
theorem tab_grown {w w' : World} {r : Option Nat} (h : Tab w) (hb : w.grownBy w' r) (hr : r ≠ some 0) : Tab w' :=
  ⟨Nat.lt_of_lt_of_le h.1 hb.size, fun i hi => ⟨(World.cell?_of_block (hb.block 0 h.1 (Ne.symm hr))).trans (h.2 i hi).1, (World.cell?_of_block (hb.block 0 h.1 (Ne.symm hr))).trans (h.2 i hi).2⟩⟩
theorem tab_below {w w' : World} {B : Nat} (h : Tab w) (hb : Below B w w') (hB : 0 < B) : Tab w' :=
  ⟨Nat.lt_of_lt_of_le h.1 hb.size, fun i hi => ⟨(hb.cell (p := ⟨0, i * 2, none⟩) hB).trans (h.2 i hi).1, (hb.cell (p := ⟨0, i * 2 + 1, none⟩) hB).trans (h.2 i hi).2⟩⟩
theorem tab_drew {w : World} (h : Tab w) : Tab w.drew := h
theorem go_at {w w' : World} {b o : Nat} {v : Value} (hb : w.grownBy w' none) (h : w.cell? ⟨b, o, none⟩ = some v) : w'.cell? ⟨b, o, none⟩ = some v :=
  (World.cell?_of_block (hb.block b (World.block_lt_of_cell? w _ h) (by simp))).trans h
theorem i32v_at (l : List Int) (j : Nat) (h : j < l.length) : (i32v l)[j]? = some (.int .i32 (l.getD j 0)) := by
  simp [i32v, List.getElem?_eq_getElem h]
theorem okF_at : ∀ (l : List Int) (i j : Nat), okF i l = true → j < l.length → okA (i + j) (l.getD j 0) = true
  | [], _, _, _, h => by simp at h
  | a :: l, i, 0, h, _ => by simp only [okF, Bool.and_eq_true] at h; exact h.1
  | a :: l, i, j + 1, h, hj => by
    simp only [okF, Bool.and_eq_true] at h
    have := okF_at l (i + 1) j h.2 (by simpa using hj)
    rwa [show i + 1 + j = i + (j + 1) from by omega] at this
theorem take_next (l : List Int) (j : Nat) (h : j < l.length) : l.take (j + 1) = l.take j ++ [l.getD j 0] := by
  rw [List.take_succ_eq_append_getElem h]; simp [List.getD, List.getElem?_eq_getElem h]
theorem okF_next {l : List Int} {i j : Nat} (h : okF i (l.take j) = true) (hj : j < l.length) (ha : okA (i + j) (l.getD j 0) = true) : okF i (l.take (j + 1)) = true := by
  rw [take_next l j hj, okF_snoc, h, List.length_take, Nat.min_eq_left (by omega), ha]; rfl
theorem okA_of {r : Nat} {n : Int} (h1 : ¬ n < lo r) (h2 : ¬ hi r < n) : okA r n = true := by
  unfold okA; exact decide_eq_true ⟨by omega, by omega⟩
theorem okA_low {r : Nat} {n : Int} (h1 : n < lo r) : okA r n = false := by
  unfold okA; exact decide_eq_false (by omega)
theorem okA_high {r : Nat} {n : Int} (h1 : hi r < n) : okA r n = false := by
  unfold okA; exact decide_eq_false (by omega)
theorem not_okF {l : List Int} {i j : Nat} (h : okA (i + j) (l.getD j 0) = false) (hj : j < l.length) : okF i l = false := by
  cases ho : okF i l
  · rfl
  · rw [okF_at l i j ho hj] at h; cases h
theorem all_bad {α : Type} {p : α → Bool} {l : List α} {k : Nat} (h : k < l.length) (hp : p (l[k]'h) = false) : l.all p = false :=
  List.all_eq_false.2 ⟨_, List.getElem_mem h, by simp [hp]⟩
theorem all_next {α : Type} {p : α → Bool} {l : List α} {k : Nat} (h : k < l.length) (hk : (l.take k).all p = true) (hp : p (l[k]'h) = true) : (l.take (k + 1)).all p = true := by
  rw [List.take_succ_eq_append_getElem h, List.all_append, hk]; simp [hp]

/-- Shots can be read at this address, each one fit. -/
def Shs (w : World) (ao : Option Addr) (l : List Sh) : Prop :=
  ∀ k (h : k < l.length), (l[k]'h).fit ∧ ∃ b o, ao = some ⟨b, o, none⟩ ∧ ∀ i v, [Value.int .i32 (l[k]'h).x, .int .i32 (l[k]'h).y, .int .i32 (l[k]'h).vx, .int .i32 (l[k]'h).vy, .int .u8 ((l[k]'h).o : Int), .int .u8 ((l[k]'h).l : Int)][i]? = some v → w.cell? ⟨b, o + k * 6 + i, none⟩ = some v
theorem Shs_grown {w w' : World} {r : Option Nat} {ao : Option Addr} {l : List Sh} (h : Shs w ao l) (hb : w.grownBy w' r) (hr : ∀ a, ao = some a → r ≠ some a.block) : Shs w' ao l := fun k hk => by
  obtain ⟨hf, b, o, e, hc⟩ := h k hk
  refine ⟨hf, b, o, e, fun i v hv => ?_⟩
  have := hc i v hv
  exact (World.cell?_of_block (hb.block b (World.block_lt_of_cell? w _ this) (by rw [e] at hr; exact Ne.symm (hr _ rfl)))).trans this
set_option maxHeartbeats 1000000 in
set_option maxRecDepth 20000 in
theorem withinSh (ao : Option Addr) (cap : Nat) (l : List Sh) (w : World) (h : Shs w ao l) (hl : l.length ≤ 100000) (ht : Tab w) :
    Calls Tryd.prog 27 #[.slice ao l.length cap, .func (.func 28) #[] #[], .int .i64 7] w fun E w' => E = .returned (.bool (l.all Sh.good)) ∧ w.grownBy w' none := by
  have HT := Lib.hid ht
  clear ht
  go_enter Tryd.func27, Tryd.ntmps27
  go_wp2
  go_loopw [14] (fun v wr => ∃ k : Nat, k ≤ l.length ∧ v = .int .i64 k ∧ Hid ((l.take k).all Sh.good = true) ∧ w.grownBy wr none) (fun v _ => l.length - (intOf v).toNat)
  case atStart => exact ⟨0, by omega, rfl, by simp [Hid], grown_refl _ _⟩
  case round =>
    obtain ⟨k, hk, rfl, hg, hb⟩ := hrel
    by_cases hlt : k < l.length
    · obtain ⟨hfit, b, o, rfl, hc⟩ := h k hlt
      have c0 : wr.cell? ⟨b, o + k * 6, none⟩ = some (.int .i32 (l[k]'hlt).x) := go_at hb (hc 0 _ rfl)
      have c1 : wr.cell? ⟨b, o + k * 6 + 1, none⟩ = some (.int .i32 (l[k]'hlt).y) := go_at hb (hc 1 _ rfl)
      have c2 : wr.cell? ⟨b, o + k * 6 + 2, none⟩ = some (.int .i32 (l[k]'hlt).vx) := go_at hb (hc 2 _ rfl)
      have c3 : wr.cell? ⟨b, o + k * 6 + 3, none⟩ = some (.int .i32 (l[k]'hlt).vy) := go_at hb (hc 3 _ rfl)
      have c4 : wr.cell? ⟨b, o + k * 6 + 4, none⟩ = some (.int .u8 ((l[k]'hlt).o : Int)) := go_at hb (hc 4 _ rfl)
      have c5 : wr.cell? ⟨b, o + k * 6 + 5, none⟩ = some (.int .u8 ((l[k]'hlt).l : Int)) := go_at hb (hc 5 _ rfl)
      have HA : Hid (((l[k]'hlt).good = false → l.all Sh.good = false) ∧ ((l[k]'hlt).good = true → (l.take (k + 1)).all Sh.good = true)) := ⟨fun e => all_bad hlt e, fun e => all_next hlt hg e⟩
      have HB := Lib.hid hb
      have HF := Lib.hid hfit
      clear hc hg hb h hfit
      generalize hs : (l[k]'hlt) = s at *
      clear hs
      go_wp2_with fail
      refine (ofShot_c s _ HF.out).mono ?_
      rintro E w1 ⟨g, rfl, hgs, hgc, hgb⟩
      have HW := Lib.hid ((HB.out.trans (grown_alloc _ _)).trans hgb)
      have HC := Lib.hid hgc
      have HL := Lib.hid hgs
      clear hgs hgc hgb HB
      go_wp2
      go_loopw [23] (fun v wr => ∃ j : Nat, j ≤ 6 ∧ v = .int .i64 j ∧ Hid (okF 7 (s.nums.take j) = true) ∧ Hid (w.grownBy wr none) ∧ Hid (Cells wr g 21 (i32v s.nums))) (fun v _ => 6 - (intOf v).toNat)
      case atStart => exact ⟨0, by omega, rfl, by simp [Hid, okF], HW, HC⟩
      case round =>
        obtain ⟨j, hj, rfl, HO, HW2, HC2⟩ := hrel
        by_cases hlt2 : j < 6
        · have hjl : j < s.nums.length := hlt2
          have n0 : wr.cell? ⟨g, j, none⟩ = some (.int .i32 (s.nums.getD j 0)) := by rw [HC2.out.cell, i32v_at _ _ hjl]
          have hji : (j : Int) < 6 := by omega
          have hgl := HC2.out.lt
          have ht := tab_grown HT.out HW2.out (by simp)
          obtain ⟨t0, t1⟩ := ht.2 (7 + j) (by omega)
          have HT2 := Lib.hid ht
          have HN1 : Hid (okA (7 + j) (s.nums.getD j 0) = false → s.good = false) := fun e => not_okF e hjl
          have HN2 : Hid (okA (7 + j) (s.nums.getD j 0) = true → okF 7 (s.nums.take (j + 1)) = true) := fun e => okF_next HO.out hjl e
          have er : IntKind.i64.wrap (7 + (j : Int)) = ((7 + j : Nat) : Int) := by rw [IntWalk.i64_in _ (by omega)]; omega
          clear hjl ht HO
          generalize s.nums.getD j 0 = n at *
          obtain ⟨r, hr⟩ : ∃ r, r = 7 + j := ⟨_, rfl⟩
          rw [← hr] at t0 t1 er HN1 HN2
          have hr13 : r < 13 := by omega
          have HLO : Hid (∀ h : n < lo r, okA r n = false) := fun h => okA_low h
          have HHI : Hid (∀ h : hi r < n, okA r n = false) := fun h => okA_high h
          have HOK : Hid (¬ n < lo r → ¬ hi r < n → okA r n = true) := fun h k => okA_of h k
          clear hr
          generalize lo r = a at *
          generalize hi r = z at *
          by_cases hn1 : n < a
          · have HX := Lib.hid (HA.out.1 (HN1.out (HLO.out hn1)))
            have hq : decide (n < a) = true := decide_eq_true hn1
            go_wp2_with fail
            go_quiet (fail)
            go_wp2
            go_ret
            exact ⟨by rw [HX.out]; rfl, (HW2.out.trans (grown_alloc _ _)).trans (grown_drewN _ _ _)⟩
          · have hq : decide (n < a) = false := decide_eq_false hn1
            by_cases hn2 : z < n
            · have HX := Lib.hid (HA.out.1 (HN1.out (HHI.out hn2)))
              go_wp2_with fail
              go_quiet (fail)
              go_wp2
              go_ret
              exact ⟨by rw [HX.out]; rfl, (HW2.out.trans (grown_alloc _ _)).trans (grown_drewN _ _ _)⟩
            · have HX := Lib.hid (HN2.out (HOK.out hn1 hn2))
              go_wp2_with fail
              go_quiet (fail)
              go_wp2
              go_roundw
              case rel => exact ⟨j + 1, by omega, by go_num, HX, (HW2.out.trans (grown_alloc _ _)).trans (grown_drewN _ _ _), HC2.out.alloc _⟩
              case measure => simp [intOf]; omega
        · obtain rfl : j = 6 := by omega
          have HX := Lib.hid (HA.out.2 HO.out)
          clear HO
          go_wp2
          go_roundw
          case rel => exact ⟨k + 1, by omega, by go_num, HX, HW2.out⟩
          case measure => simp [intOf]; omega
    · have hkl : k = l.length := by omega
      have HG := Lib.hid (show l.all Sh.good = true by have := hg.out; rwa [hkl, List.take_length] at this)
      have HB := Lib.hid hb
      clear hkl hg hb h
      go_wp2
      go_ret
      exact ⟨by rw [HG.out]; rfl, HB.out⟩

/-- Players can be read at this address, each one fit. -/
def Pls (w : World) (ao : Option Addr) (l : List Pl) : Prop :=
  ∀ k (h : k < l.length), (l[k]'h).fit ∧ ∃ b o, ao = some ⟨b, o, none⟩ ∧ ∀ i v, [Value.int .i32 (l[k]'h).x, .int .i32 (l[k]'h).y, .int .i32 (l[k]'h).vx, .int .i32 (l[k]'h).vy, .int .u8 ((l[k]'h).h : Int), .int .u8 ((l[k]'h).c : Int), .int .u8 ((l[k]'h).f : Int)][i]? = some v → w.cell? ⟨b, o + k * 7 + i, none⟩ = some v
theorem Pls_grown {w w' : World} {r : Option Nat} {ao : Option Addr} {l : List Pl} (h : Pls w ao l) (hb : w.grownBy w' r) (hr : ∀ a, ao = some a → r ≠ some a.block) : Pls w' ao l := fun k hk => by
  obtain ⟨hf, b, o, e, hc⟩ := h k hk
  refine ⟨hf, b, o, e, fun i v hv => ?_⟩
  have := hc i v hv
  exact (World.cell?_of_block (hb.block b (World.block_lt_of_cell? w _ this) (by rw [e] at hr; exact Ne.symm (hr _ rfl)))).trans this
set_option maxHeartbeats 1000000 in
set_option maxRecDepth 20000 in
theorem withinPl (ao : Option Addr) (cap : Nat) (l : List Pl) (w : World) (h : Pls w ao l) (hl : l.length ≤ 100000) (ht : Tab w) :
    Calls Tryd.prog 25 #[.slice ao l.length cap, .func (.func 26) #[] #[], .int .i64 0] w fun E w' => E = .returned (.bool (l.all Pl.good)) ∧ w.grownBy w' none := by
  have HT := Lib.hid ht
  clear ht
  go_enter Tryd.func25, Tryd.ntmps25
  go_wp2
  go_loopw [14] (fun v wr => ∃ k : Nat, k ≤ l.length ∧ v = .int .i64 k ∧ Hid ((l.take k).all Pl.good = true) ∧ w.grownBy wr none) (fun v _ => l.length - (intOf v).toNat)
  case atStart => exact ⟨0, by omega, rfl, by simp [Hid], grown_refl _ _⟩
  case round =>
    obtain ⟨k, hk, rfl, hg, hb⟩ := hrel
    by_cases hlt : k < l.length
    · obtain ⟨hfit, b, o, rfl, hc⟩ := h k hlt
      have c0 : wr.cell? ⟨b, o + k * 7, none⟩ = some (.int .i32 (l[k]'hlt).x) := go_at hb (hc 0 _ rfl)
      have c1 : wr.cell? ⟨b, o + k * 7 + 1, none⟩ = some (.int .i32 (l[k]'hlt).y) := go_at hb (hc 1 _ rfl)
      have c2 : wr.cell? ⟨b, o + k * 7 + 2, none⟩ = some (.int .i32 (l[k]'hlt).vx) := go_at hb (hc 2 _ rfl)
      have c3 : wr.cell? ⟨b, o + k * 7 + 3, none⟩ = some (.int .i32 (l[k]'hlt).vy) := go_at hb (hc 3 _ rfl)
      have c4 : wr.cell? ⟨b, o + k * 7 + 4, none⟩ = some (.int .u8 ((l[k]'hlt).h : Int)) := go_at hb (hc 4 _ rfl)
      have c5 : wr.cell? ⟨b, o + k * 7 + 5, none⟩ = some (.int .u8 ((l[k]'hlt).c : Int)) := go_at hb (hc 5 _ rfl)
      have c6 : wr.cell? ⟨b, o + k * 7 + 6, none⟩ = some (.int .u8 ((l[k]'hlt).f : Int)) := go_at hb (hc 6 _ rfl)
      have HA : Hid (((l[k]'hlt).good = false → l.all Pl.good = false) ∧ ((l[k]'hlt).good = true → (l.take (k + 1)).all Pl.good = true)) := ⟨fun e => all_bad hlt e, fun e => all_next hlt hg e⟩
      have HB := Lib.hid hb
      have HF := Lib.hid hfit
      clear hc hg hb h hfit
      generalize hs : (l[k]'hlt) = s at *
      clear hs
      go_wp2_with fail
      refine (ofPlayer_c s _ HF.out).mono ?_
      rintro E w1 ⟨g, rfl, hgs, hgc, hgb⟩
      have HW := Lib.hid ((HB.out.trans (grown_alloc _ _)).trans hgb)
      have HC := Lib.hid hgc
      have HL := Lib.hid hgs
      clear hgs hgc hgb HB
      go_wp2
      go_loopw [23] (fun v wr => ∃ j : Nat, j ≤ 7 ∧ v = .int .i64 j ∧ Hid (okF 0 (s.nums.take j) = true) ∧ Hid (w.grownBy wr none) ∧ Hid (Cells wr g 21 (i32v s.nums))) (fun v _ => 7 - (intOf v).toNat)
      case atStart => exact ⟨0, by omega, rfl, by simp [Hid, okF], HW, HC⟩
      case round =>
        obtain ⟨j, hj, rfl, HO, HW2, HC2⟩ := hrel
        by_cases hlt2 : j < 7
        · have hjl : j < s.nums.length := hlt2
          have n0 : wr.cell? ⟨g, j, none⟩ = some (.int .i32 (s.nums.getD j 0)) := by rw [HC2.out.cell, i32v_at _ _ hjl]
          have hji : (j : Int) < 7 := by omega
          have hgl := HC2.out.lt
          have ht := tab_grown HT.out HW2.out (by simp)
          obtain ⟨t0, t1⟩ := ht.2 (0 + j) (by omega)
          have HT2 := Lib.hid ht
          have HN1 : Hid (okA (0 + j) (s.nums.getD j 0) = false → s.good = false) := fun e => not_okF e hjl
          have HN2 : Hid (okA (0 + j) (s.nums.getD j 0) = true → okF 0 (s.nums.take (j + 1)) = true) := fun e => okF_next HO.out hjl e
          have er : IntKind.i64.wrap (0 + (j : Int)) = ((0 + j : Nat) : Int) := by rw [IntWalk.i64_in _ (by omega)]; omega
          clear hjl ht HO
          generalize s.nums.getD j 0 = n at *
          obtain ⟨r, hr⟩ : ∃ r, r = 0 + j := ⟨_, rfl⟩
          rw [← hr] at t0 t1 er HN1 HN2
          have hr13 : r < 13 := by omega
          have HLO : Hid (∀ h : n < lo r, okA r n = false) := fun h => okA_low h
          have HHI : Hid (∀ h : hi r < n, okA r n = false) := fun h => okA_high h
          have HOK : Hid (¬ n < lo r → ¬ hi r < n → okA r n = true) := fun h k => okA_of h k
          skip
          generalize lo r = a at *
          generalize hi r = z at *
          obtain rfl : j = r := by omega
          clear er hr
          by_cases hn1 : n < a
          · have HX := Lib.hid (HA.out.1 (HN1.out (HLO.out hn1)))
            have hq : decide (n < a) = true := decide_eq_true hn1
            go_wp2_with fail
            go_quiet (fail)
            go_wp2
            go_ret
            exact ⟨by rw [HX.out]; rfl, (HW2.out.trans (grown_alloc _ _)).trans (grown_drewN _ _ _)⟩
          · have hq : decide (n < a) = false := decide_eq_false hn1
            by_cases hn2 : z < n
            · have HX := Lib.hid (HA.out.1 (HN1.out (HHI.out hn2)))
              go_wp2_with fail
              go_quiet (fail)
              go_wp2
              go_ret
              exact ⟨by rw [HX.out]; rfl, (HW2.out.trans (grown_alloc _ _)).trans (grown_drewN _ _ _)⟩
            · have HX := Lib.hid (HN2.out (HOK.out hn1 hn2))
              go_wp2_with fail
              go_quiet (fail)
              go_wp2
              go_roundw
              case rel => exact ⟨j + 1, by omega, by go_num, HX, (HW2.out.trans (grown_alloc _ _)).trans (grown_drewN _ _ _), HC2.out.alloc _⟩
              case measure => simp [intOf]; omega
        · obtain rfl : j = 7 := by omega
          have HX := Lib.hid (HA.out.2 HO.out)
          clear HO
          go_wp2
          go_roundw
          case rel => exact ⟨k + 1, by omega, by go_num, HX, HW2.out⟩
          case measure => simp [intOf]; omega
    · have hkl : k = l.length := by omega
      have HG := Lib.hid (show l.all Pl.good = true by have := hg.out; rwa [hkl, List.take_length] at this)
      have HB := Lib.hid hb
      clear hkl hg hb h
      go_wp2
      go_ret
      exact ⟨by rw [HG.out]; rfl, HB.out⟩
end Go.Proofs.YtbmkmmkebophpaaDoor
