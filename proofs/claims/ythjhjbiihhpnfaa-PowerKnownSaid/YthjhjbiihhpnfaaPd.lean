/- A power goes off: the disk crashes, once. -/
import Derived.Test.YthjhjbiihhpnfaaPc
import Derived.Test.YthjhjbiihhpnfaaDt
namespace Go.Proofs.Ythjhjbiihhpnfaa
open Go.RowKit
set_option linter.unusedVariables false
set_option linter.unusedSimpArgs false
set_option maxRecDepth 100000

section
variable {S : Nat → Prop} {w w' : World} {g q kc : Nat} {dv : Value} {ko : Option Addr} {p : Pw}
theorem PwC.c0 (h : PwC S w g dv q ko kc p) : w.cell? ⟨g, 0, none⟩ = some dv := h.blk.cell 0
theorem PwC.c1 (h : PwC S w g dv q ko kc p) : w.cell? ⟨g, 1, none⟩ = some (.int .i64 p.fu) := h.blk.cell 1
theorem PwC.c2 (h : PwC S w g dv q ko kc p) : w.cell? ⟨g, 2, none⟩ = some (.slice ko p.ks.length kc) := h.blk.cell 2
theorem PwC.c3 (h : PwC S w g dv q ko kc p) : w.cell? ⟨g, 3, none⟩ = some (.int .i64 p.n) := h.blk.cell 3
theorem PwC.c4 (h : PwC S w g dv q ko kc p) : w.cell? ⟨g, 4, none⟩ = some (.int .u32 (b01 p.off)) := h.blk.cell 4
theorem PwC.c5 (h : PwC S w g dv q ko kc p) : w.cell? ⟨g, 5, none⟩ = some (.int .u32 (b01 p.off)) := h.blk.cell 5
theorem PwC.c6 (h : PwC S w g dv q ko kc p) : w.cell? ⟨g, 6, none⟩ = some (.int .i32 0) := h.blk.cell 6
end
/-- The error ahead of the disk's. -/
def Pw.chk (p : Pw) : Nat := if p.off then 8 else 0
theorem pcheck_c {S : Nat → Prop} {g q : Nat} {dv : Value} {kc : Nat} {ko : Option Addr} {p : Pw} (w : World) (h : PwC S w g dv q ko kc p) :
    Calls Try.prog 19 #[.pointer (some ⟨g, 0, none⟩)] w fun R w' => R = .returned (.int .i64 (p.chk : Nat)) ∧ w = w' := by
  obtain ⟨gd, rfl⟩ := h.dk.ptr1
  have c0 := h.c0
  have c4 := h.c4
  clear h
  have hz : p.chk = if p.off then 8 else 0 := rfl
  rw [hz]
  clear hz
  generalize p.off = z at c4 ⊢
  cases z
  · have c4 := Lib.hid c4
    show Calls _ _ _ _ fun R w' => R = .returned (.int .i64 0) ∧ w = w'
    go_enter Try.func19, Try.ntmps19
    go_wp2_with fail
    refine (bload_c _ _ w c4.out).mono ?_
    rintro R w1 ⟨rfl, rfl⟩
    have hb : (b01 false != 0) = false := rfl
    rw [hb]
    go_wp2
    go_ret
    exact ⟨rfl, rfl⟩
  · have c4 := Lib.hid c4
    show Calls _ _ _ _ fun R w' => R = .returned (.int .i64 8) ∧ w = w'
    go_enter Try.func19, Try.ntmps19
    go_wp2_with fail
    refine (bload_c _ _ w c4.out).mono ?_
    rintro R w1 ⟨rfl, rfl⟩
    have hb : (b01 true != 0) = true := rfl
    rw [hb]
    go_wp2
    go_ret
    exact ⟨rfl, rfl⟩
theorem pcheck_nil (w : World) : Calls Try.prog 19 #[.pointer none] w fun R w' => R = .returned (.int .i64 1) ∧ w = w' := by
  go_enter Try.func19, Try.ntmps19
  go_wp2
  go_ret
  exact ⟨rfl, rfl⟩
theorem pcheck_zero (g : Nat) (w : World) (h : w.cell? ⟨g, 0, none⟩ = some (.pointer none)) : Calls Try.prog 19 #[.pointer (some ⟨g, 0, none⟩)] w fun R w' => R = .returned (.int .i64 1) ∧ w = w' := by
  go_enter Try.func19, Try.ntmps19
  go_wp2
  go_ret
  exact ⟨rfl, rfl⟩
/-- What the function handed to Once.Do does: the power is off, the disk has crashed; the Once's lock is held meanwhile. -/
def OffPost (S : Nat → Prop) (w : World) (g : Nat) (dv : Value) (q : Nat) (ko : Option Addr) (kc : Nat) (p : Pw) : Ending → World → Prop := fun R w' =>
  R = .returned (.tuple #[]) ∧ Cells w' g 54 #[dv, .int .i64 p.fu, .slice ko p.ks.length kc, .int .i64 p.n, .int .u32 1, .int .u32 0, .int .i32 1, .int .u32 0] ∧ Ints w' ko p.ks ∧ DkS S w' dv q (aCrash p.ks p.E) ∧ Tu (fun x => x = g ∨ S x) w w'
theorem tu_set (w : World) (g i : Nat) (u : Value) : Tu (fun x => x = g) w (w.setCell ⟨g, i, none⟩ u) := (Tu.grown (grown_set w g i u)).mono (fun x _ e => Option.some.inj e)
set_option maxHeartbeats 2000000 in
theorem off_c {S : Nat → Prop} {g q kc b : Nat} {dv : Value} {ko : Option Addr} {p : Pw} (w : World) (hc : Cells w g 54 #[dv, .int .i64 p.fu, .slice ko p.ks.length kc, .int .i64 p.n, .int .u32 0, .int .u32 0, .int .i32 1, .int .u32 0])
    (hi : Ints w ko p.ks) (hk : p.ks.length ≤ 20) (hkf : ∀ a, ko = some a → p.ks ≠ [] → (¬ S a.block ∧ a.block ≠ g) ∧ a.block < w.heap.size) (hn : ¬ S g) (hd : DkS S w dv q p.E)
    (hb : w.cell? ⟨b, 0, none⟩ = some (.pointer (some ⟨g, 0, none⟩))) (hgb : b ≠ g) :
    Calls Try.prog 39 #[.pointer (some ⟨b, 0, none⟩)] w (OffPost S w g dv q ko kc p) := by
  obtain ⟨gd, rfl⟩ := hd.ptr1
  have z4 := Lib.hid (hc.frozen 4)
  have c4 := Lib.hid (hc.cell 4)
  have HC := Lib.hid hc
  have HI := Lib.hid hi
  have HK := Lib.hid hk
  have HF := Lib.hid hkf
  have HD := Lib.hid hd
  have HB := Lib.hid hb
  clear hc hi hk hkf hd
  go_enter Try.func39, Try.ntmps39
  go_wp2_with fail
  refine (store_c ⟨g, 4, none⟩ (.int .u32 0) w c4.out z4.out).mono ?_
  rintro R w1 ⟨rfl, hw1⟩
  have ht : Tu (fun x => x = g) w w1 := by rw [hw1]; exact (Tu.refl (fun x => x = g) w).draw.trans (tu_set w.drew g 4 _) (fun _ _ h => h)
  have hc1 : Cells w1 g 54 #[.pointer (some ⟨gd, 0, none⟩), .int .i64 p.fu, .slice ko p.ks.length kc, .int .i64 p.n, .int .u32 1, .int .u32 0, .int .i32 1, .int .u32 0] := by rw [hw1]; exact HC.out.drew.set 4 _
  have hb1 : w1.cell? ⟨b, 0, none⟩ = some (.pointer (some ⟨g, 0, none⟩)) := by
    rw [World.cell?_of_block (w := w) (ht.block b (World.block_lt_of_cell? w _ HB.out) hgb)]; exact HB.out
  clear hw1 hb HB
  go_upto_region 1 with fail
  have T1 := Lib.hid ht.draw
  have C1 := Lib.hid hc1.drew
  have hbd : w1.drew.cell? ⟨b, 0, none⟩ = some (.pointer (some ⟨g, 0, none⟩)) := hb1
  clear ht hc1 hb1
  generalize hwd : w1.drew = wd at *
  have lb : ∀ W, W = wd → W.cell? ⟨b, 0, none⟩ = some (.pointer (some ⟨g, 0, none⟩)) := fun W e => e ▸ hbd
  have l0 : ∀ W, W = wd → W.cell? ⟨g, 0, none⟩ = some (.pointer (some ⟨gd, 0, none⟩)) := fun W e => e ▸ C1.out.cell 0
  have l2 : ∀ W, W = wd → W.cell? ⟨g, 2, none⟩ = some (.slice ko p.ks.length kc) := fun W e => e ▸ C1.out.cell 2
  have hs0 : wd = wd := rfl
  refine wp_region_till (S := fun w' => w' = wd) (by kernel_rfl) ?_
  rw [hwd]
  clear hwd hbd
  refine wpTill_take (i := 0) (v := ?va0) rfl (by kernel_rfl) (fun _ _ _ h => h) (Or.inl ⟨by rfl, ?hya0⟩) hs0 ?resta0
  case hya0 => (intro W hW; (try dsimp only at hW); go_simp; try with_reducible rfl)
  simp only [Act.put, List.setIfInBounds_toArray, List.set_cons_zero, List.set_cons_succ, List.getElem_toArray, List.getElem_cons_succ, List.getElem_cons_zero]
  refine wpTill_take (i := 1) (v := ?va1) rfl (by kernel_rfl) (fun _ _ _ h => h) (Or.inl ⟨by rfl, ?hya1⟩) hs0 ?resta1
  case hya1 => (intro W hW; (try dsimp only at hW); go_simp; try with_reducible rfl)
  simp only [Act.put, List.setIfInBounds_toArray, List.set_cons_zero, List.set_cons_succ, List.getElem_toArray, List.getElem_cons_succ, List.getElem_cons_zero]
  refine wpTill_take (i := 2) (v := ?va2) rfl (by kernel_rfl) (fun _ _ _ h => h) (Or.inl ⟨by rfl, ?hya2⟩) hs0 ?resta2
  case hya2 => (intro W hW; (try dsimp only at hW); go_simp; try with_reducible rfl)
  simp only [Act.put, List.setIfInBounds_toArray, List.set_cons_zero, List.set_cons_succ, List.getElem_toArray, List.getElem_cons_succ, List.getElem_cons_zero]
  refine wpTill_take (i := 3) (v := ?va3) rfl (by kernel_rfl) (fun _ _ _ h => h) (Or.inl ⟨by rfl, ?hya3⟩) hs0 ?resta3
  case hya3 => (intro W hW; (try dsimp only at hW); go_simp; try with_reducible rfl)
  simp only [Act.put, List.setIfInBounds_toArray, List.set_cons_zero, List.set_cons_succ, List.getElem_toArray, List.getElem_cons_succ, List.getElem_cons_zero]
  refine wpTill_take (i := 4) (v := ?va4) rfl (by kernel_rfl) (fun _ _ _ h => h) (Or.inl ⟨by rfl, ?hya4⟩) hs0 ?resta4
  case hya4 => (intro W hW; (try dsimp only at hW); go_simp; try with_reducible rfl)
  simp only [Act.put, List.setIfInBounds_toArray, List.set_cons_zero, List.set_cons_succ, List.getElem_toArray, List.getElem_cons_succ, List.getElem_cons_zero]
  refine wpTill_take (i := 5) (v := ?va5) rfl (by kernel_rfl) (fun _ _ _ h => h) (Or.inl ⟨by rfl, ?hya5⟩) hs0 ?resta5
  case hya5 => (intro W hW; (try dsimp only at hW); go_simp; try with_reducible rfl)
  simp only [Act.put, List.setIfInBounds_toArray, List.set_cons_zero, List.set_cons_succ, List.getElem_toArray, List.getElem_cons_succ, List.getElem_cons_zero]
  refine wpTill_take (i := 6) (v := ?va6) rfl (by kernel_rfl) (fun _ _ _ h => h) (Or.inl ⟨by rfl, ?hya6⟩) hs0 ?resta6
  case hya6 => (intro W hW; (try dsimp only at hW); go_simp; try with_reducible rfl)
  simp only [Act.put, List.setIfInBounds_toArray, List.set_cons_zero, List.set_cons_succ, List.getElem_toArray, List.getElem_cons_succ, List.getElem_cons_zero]
  refine wpTill_take (i := 7) (v := ?va7) rfl (by kernel_rfl) (fun _ _ _ h => h) (Or.inl ⟨by rfl, ?hya7⟩) hs0 ?resta7
  case hya7 => (intro W hW; (try dsimp only at hW); go_simp; try with_reducible rfl)
  simp only [Act.put, List.setIfInBounds_toArray, List.set_cons_zero, List.set_cons_succ, List.getElem_toArray, List.getElem_cons_succ, List.getElem_cons_zero]
  refine wpTill_run (i := 8) (by kernel_rfl) rfl hs0 (fun K hK => ?_)
  go_simp
  go_at_call 41
  have hi2 : Ints wd ko p.ks := by
    by_cases h0 : p.ks = []
    · intro j hj; rw [h0] at hj; cases hj
    · exact HI.out.tu T1.out (fun a e => (HF.out a e h0).1.2)
  refine (crash_s wd (HD.out.tu T1.out (fun x _ hx e => hn (e ▸ hx))) hi2 (Nat.le_trans HK.out (by decide)) (fun a e h0 => ⟨(HF.out a e h0).1.1, Nat.lt_of_lt_of_le (HF.out a e h0).2 T1.out.size⟩)).mono ?_
  rintro R w2 ⟨rfl, hd2, ht2⟩
  have D2 := Lib.hid hd2
  have T2 := Lib.hid ht2
  have hi3 : Ints w2 ko p.ks := by
    by_cases h0 : p.ks = []
    · intro j hj; rw [h0] at hj; cases hj
    · exact hi2.tu ht2 (fun a e => (HF.out a e h0).1.1)
  have I3 := Lib.hid hi3
  refine hK _ _ ?_
  clear hK K hd2 ht2 hi2 hi3 lb l0 l2
  refine wpTill_done (by kernel_rfl) ?_
  go_wp2
  go_end0
  exact ⟨rfl, C1.out.tu T2.out hn, I3.out, D2.out, (T1.out.mono (fun x _ h => .inl h)).trans T2.out (fun x _ h => .inr h)⟩
end Go.Proofs.Ythjhjbiihhpnfaa
