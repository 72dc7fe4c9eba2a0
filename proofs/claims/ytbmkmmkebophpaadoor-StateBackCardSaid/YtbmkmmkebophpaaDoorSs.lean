/- A state that may be, out of any one, as the statements make it: its contract. -/
import Derived.Test.YtbmkmmkebophpaaDoorSq
import Derived.Test.YtbmkmmkebophpaaDoorSx0
import Derived.StillTailTactics
import Derived.Deep.RegionHeld3
import Derived.Test.YtbmkmmkebophpaaDoorHe
import Derived.Deep.AppendLies
namespace Go.Proofs.YtbmkmmkebophpaaDoor
open Go.RowKit
set_option linter.unusedVariables false
set_option linter.unusedSimpArgs false

def stk (s : St) (k : Nat) : St := if k = 0 then s else if k = 1 then { s with p := mdP s.p } else { s with p := mdP s.p, q := mdP s.q }
/-- What made answers. -/
def MdPost (s : St) (w : World) (E : Ending) (w' : World) : Prop := ∃ ao' cap', E = .returned (sv (md s) ao' cap') ∧ w'.ownsRow w.heap.size 46 6 (.slice ao' (md s).ss.length cap') (md s).ss.length (Hall (md s).ss) ∧ w.grownBy w' none
attribute [local go_sem ↓] loadAt_state storeAt_state storeAt_pl
attribute [local go_sem] run_loadState rowOf_new rowOf_old rowOf_drew rowOf_drewN run_storeOk okRow_new okRow_old Value.oneCell' rowOf_own run_storePlNew
set_option maxHeartbeats 2000000 in
set_option maxRecDepth 20000 in
theorem made_c (s : St) (ao : Option Addr) (cap : Nat) (w : World) (h : Shs w ao s.ss) (hf : s.fit) (hl : s.ss.length ≤ maxLen) :
    Calls Tryd.prog 22 #[sv s ao cap] w (MdPost s w) := by
  have hr0 : ∀ A : Obj, rowOf ((w.alloc (.cells (stc s ao cap) 30)).alloc A) w.heap.size = stc s ao cap := fun A => rowOf_cells ((Cells.made w _ _).alloc A)
  have HFP := Lib.hid hf.2.2.1
  have HFQ := Lib.hid hf.2.2.2.1
  have HFS := Lib.hid hf.2.2.2.2.1
  have HS := Lib.hid h
  clear h hf
  obtain ⟨Q, hQ⟩ : ∃ Q, Q = MdPost s w := ⟨_, rfl⟩
  rw [← hQ]
  have HQ : Hid (∀ (E : Ending) (w' : World), MdPost s w E w' → Q E w') := fun E w' x => by rw [hQ]; exact x
  clear hQ
  go_enter Tryd.func22, Tryd.ntmps22
  go_upto_region 2 with fail
  have HB1 : Hid (Bk ((((w.alloc (.cells (stc s ao cap) 30)).alloc (.cells #[.int .u64 0, .int .u64 0, .int .i32 0, .int .i32 0, .int .i32 0, .int .i32 0, .int .u8 0, .int .u8 0, .int .u8 0, .int .i32 0, .int .i32 0, .int .i32 0, .int .i32 0, .int .u8 0, .int .u8 0, .int .u8 0, .slice none 0 0, .int .u16 0, .int .u16 0] 30)).alloc (.cells #[.int .u64 0, .int .u64 0, .int .i32 0, .int .i32 0, .int .i32 0, .int .i32 0, .int .u8 0, .int .u8 0, .int .u8 0, .int .i32 0, .int .i32 0, .int .i32 0, .int .i32 0, .int .u8 0, .int .u8 0, .int .u8 0, .slice none 0 0, .int .u16 0, .int .u16 0] 30)).setRow (w.heap.size + 1 + 1) (stc s ao cap)) w.heap.size s ao cap) :=
    cells_far (((Cells.made w _ _).alloc _).alloc _) (by omega) _
  have HB2 : Hid (Bk ((((w.alloc (.cells (stc s ao cap) 30)).alloc (.cells #[.int .u64 0, .int .u64 0, .int .i32 0, .int .i32 0, .int .i32 0, .int .i32 0, .int .u8 0, .int .u8 0, .int .u8 0, .int .i32 0, .int .i32 0, .int .i32 0, .int .i32 0, .int .u8 0, .int .u8 0, .int .u8 0, .slice none 0 0, .int .u16 0, .int .u16 0] 30)).alloc (.cells #[.int .u64 0, .int .u64 0, .int .i32 0, .int .i32 0, .int .i32 0, .int .i32 0, .int .u8 0, .int .u8 0, .int .u8 0, .int .i32 0, .int .i32 0, .int .i32 0, .int .i32 0, .int .u8 0, .int .u8 0, .int .u8 0, .slice none 0 0, .int .u16 0, .int .u16 0] 30)).setRow (w.heap.size + 1 + 1) (stc s ao cap)) (w.heap.size + 1) .zero none 0) :=
    cells_far (Cells.alloc (heap_alloc2_new w _ _) _) (by omega) _
  have HB3 : Hid (Bk ((((w.alloc (.cells (stc s ao cap) 30)).alloc (.cells #[.int .u64 0, .int .u64 0, .int .i32 0, .int .i32 0, .int .i32 0, .int .i32 0, .int .u8 0, .int .u8 0, .int .u8 0, .int .i32 0, .int .i32 0, .int .i32 0, .int .i32 0, .int .u8 0, .int .u8 0, .int .u8 0, .slice none 0 0, .int .u16 0, .int .u16 0] 30)).alloc (.cells #[.int .u64 0, .int .u64 0, .int .i32 0, .int .i32 0, .int .i32 0, .int .i32 0, .int .u8 0, .int .u8 0, .int .u8 0, .int .i32 0, .int .i32 0, .int .i32 0, .int .i32 0, .int .u8 0, .int .u8 0, .int .u8 0, .slice none 0 0, .int .u16 0, .int .u16 0] 30)).setRow (w.heap.size + 1 + 1) (stc s ao cap)) (w.heap.size + 1 + 1) s ao cap) := by
    have := Cells.made ((w.alloc (.cells (stc s ao cap) 30)).alloc (.cells #[.int .u64 0, .int .u64 0, .int .i32 0, .int .i32 0, .int .i32 0, .int .i32 0, .int .u8 0, .int .u8 0, .int .u8 0, .int .i32 0, .int .i32 0, .int .i32 0, .int .i32 0, .int .u8 0, .int .u8 0, .int .u8 0, .slice none 0 0, .int .u16 0, .int .u16 0] 30)) 30 #[.int .u64 0, .int .u64 0, .int .i32 0, .int .i32 0, .int .i32 0, .int .i32 0, .int .u8 0, .int .u8 0, .int .u8 0, .int .i32 0, .int .i32 0, .int .i32 0, .int .i32 0, .int .u8 0, .int .u8 0, .int .u8 0, .slice none 0 0, .int .u16 0, .int .u16 0]
    rw [show ((w.alloc (.cells (stc s ao cap) 30)).alloc (.cells #[.int .u64 0, .int .u64 0, .int .i32 0, .int .i32 0, .int .i32 0, .int .i32 0, .int .u8 0, .int .u8 0, .int .u8 0, .int .i32 0, .int .i32 0, .int .i32 0, .int .i32 0, .int .u8 0, .int .u8 0, .int .u8 0, .slice none 0 0, .int .u16 0, .int .u16 0] 30)).heap.size = w.heap.size + 1 + 1 by simp] at this
    exact bk_setRow this s ao cap
  have HBW : Hid (Below w.heap.size w ((((w.alloc (.cells (stc s ao cap) 30)).alloc (.cells #[.int .u64 0, .int .u64 0, .int .i32 0, .int .i32 0, .int .i32 0, .int .i32 0, .int .u8 0, .int .u8 0, .int .u8 0, .int .i32 0, .int .i32 0, .int .i32 0, .int .i32 0, .int .u8 0, .int .u8 0, .int .u8 0, .slice none 0 0, .int .u16 0, .int .u16 0] 30)).alloc (.cells #[.int .u64 0, .int .u64 0, .int .i32 0, .int .i32 0, .int .i32 0, .int .i32 0, .int .u8 0, .int .u8 0, .int .u8 0, .int .i32 0, .int .i32 0, .int .i32 0, .int .i32 0, .int .u8 0, .int .u8 0, .int .u8 0, .slice none 0 0, .int .u16 0, .int .u16 0] 30)).setRow (w.heap.size + 1 + 1) (stc s ao cap))) :=
    below_setRow ((((Below.refl _ w).alloc (Nat.le_refl _) _).alloc (by simp) _).alloc (by simp; omega) _) (by omega) _
  generalize (((w.alloc (.cells (stc s ao cap) 30)).alloc (.cells #[.int .u64 0, .int .u64 0, .int .i32 0, .int .i32 0, .int .i32 0, .int .i32 0, .int .u8 0, .int .u8 0, .int .u8 0, .int .i32 0, .int .i32 0, .int .i32 0, .int .i32 0, .int .u8 0, .int .u8 0, .int .u8 0, .slice none 0 0, .int .u16 0, .int .u16 0] 30)).alloc (.cells #[.int .u64 0, .int .u64 0, .int .i32 0, .int .i32 0, .int .i32 0, .int .i32 0, .int .u8 0, .int .u8 0, .int .u8 0, .int .i32 0, .int .i32 0, .int .i32 0, .int .i32 0, .int .u8 0, .int .u8 0, .int .u8 0, .slice none 0 0, .int .u16 0, .int .u16 0] 30)).setRow (w.heap.size + 1 + 1) (stc s ao cap) = wa at *
  clear hr0
  go_wp2
  go_loopw [4] (fun v wr => ∃ k : Nat, k ≤ 2 ∧ v = .int .i64 k ∧ Hid (Bk wr w.heap.size s ao cap) ∧ Hid (Bk wr (w.heap.size + 1) .zero none 0) ∧ Hid (Bk wr (w.heap.size + 1 + 1) (stk s k) ao cap) ∧ Hid (Below w.heap.size w wr)) (fun v _ => 2 - (intOf v).toNat)
  case atStart => exact ⟨0, by omega, rfl, HB1, HB2, HB3, HBW⟩
  case round =>
    obtain ⟨k, hk, rfl, HC1, HC2, HC3, HCW⟩ := hrel
    have hk3 : k = 0 ∨ k = 1 ∨ k = 2 := by omega
    obtain ⟨c0, c1, ⟨c2, c3, c4, c5, c6, c7, c8⟩, ⟨c9, c10, c11, c12, c13, c14, c15⟩, c16, c17, c18⟩ := bk_cells HC1.out
    have hlt3 := Cells.lt HC3.out
    clear HB1 HB2 HB3 HBW
    rcases hk3 with rfl | rfl | rfl
    · obtain ⟨fx, fy, fvx, fvy, fh, fc, ff⟩ := HFP.out
      have HZ1 : Hid (Bk (wr.alloc (.cells #[.int .i32 s.p.x, .int .i32 s.p.y, .int .i32 s.p.vx, .int .i32 s.p.vy, .int .u8 (s.p.h : Int), .int .u8 (s.p.c : Int), .int .u8 (s.p.f : Int)] 24)) w.heap.size s ao cap) := bk_grown HC1.out (grown_alloc _ _) (by simp)
      have HZ2 : Hid (Bk (wr.alloc (.cells #[.int .i32 s.p.x, .int .i32 s.p.y, .int .i32 s.p.vx, .int .i32 s.p.vy, .int .u8 (s.p.h : Int), .int .u8 (s.p.c : Int), .int .u8 (s.p.f : Int)] 24)) (w.heap.size + 1) .zero none 0) := bk_grown HC2.out (grown_alloc _ _) (by simp)
      have HZ3 : Hid (Bk (wr.alloc (.cells #[.int .i32 s.p.x, .int .i32 s.p.y, .int .i32 s.p.vx, .int .i32 s.p.vy, .int .u8 (s.p.h : Int), .int .u8 (s.p.c : Int), .int .u8 (s.p.f : Int)] 24)) (w.heap.size + 1 + 1) (stk s 0) ao cap) := bk_grown HC3.out (grown_alloc _ _) (by simp)
      have HZW : Hid (Below w.heap.size w (wr.alloc (.cells #[.int .i32 s.p.x, .int .i32 s.p.y, .int .i32 s.p.vx, .int .i32 s.p.vy, .int .u8 (s.p.h : Int), .int .u8 (s.p.c : Int), .int .u8 (s.p.f : Int)] 24))) := HCW.out.alloc HCW.out.size _
      have HCX : Hid (Cells (wr.alloc (.cells #[.int .i32 s.p.x, .int .i32 s.p.y, .int .i32 s.p.vx, .int .i32 s.p.vy, .int .u8 (s.p.h : Int), .int .u8 (s.p.c : Int), .int .u8 (s.p.f : Int)] 24)) wr.heap.size 24 #[.int .i32 s.p.x, .int .i32 s.p.y, .int .i32 s.p.vx, .int .i32 s.p.vy, .int .u8 (s.p.h : Int), .int .u8 (s.p.c : Int), .int .u8 (s.p.f : Int)]) := Cells.made _ _ _
      have HSK : Hid ({ stk s 0 with p := mdP s.p } = stk s 1) := rfl
      have HZL : Hid (w.heap.size ≤ (wr.alloc (.cells #[.int .i32 s.p.x, .int .i32 s.p.y, .int .i32 s.p.vx, .int .i32 s.p.vy, .int .u8 (s.p.h : Int), .int .u8 (s.p.c : Int), .int .u8 (s.p.f : Int)] 24)).heap.size) := by show _ ≤ _; simp; have := HCW.out.size; omega
      clear HC1 HC2 HC3 HCW HFP HFQ hlt3
      generalize s.p = x at *
      go_wp2_with fail
      generalize wr.alloc (.cells #[.int .i32 x.x, .int .i32 x.y, .int .i32 x.vx, .int .i32 x.vy, .int .u8 (x.h : Int), .int .u8 (x.c : Int), .int .u8 (x.f : Int)] 24) = wz at *
      clear c0 c1 c2 c3 c4 c5 c6 c7 c8 c9 c10 c11 c12 c13 c14 c15 c16 c17 c18
      obtain ⟨w5, hw5⟩ : ∃ w5 : World, { wz with drawn := wz.drawn + 1 } = w5 := ⟨_, rfl⟩
      have hb5 : Bk w5 (w.heap.size + 1 + 1) (stk s 0) ao cap := by rw [← hw5]; exact Cells.drew HZ3.out
      have hx5 : Cells w5 wr.heap.size 24 #[.int .i32 x.x, .int .i32 x.y, .int .i32 x.vx, .int .i32 x.vy, .int .u8 (x.h : Int), .int .u8 (x.c : Int), .int .u8 (x.f : Int)] := by rw [← hw5]; exact Cells.drew HCX.out
      have HV1 : Hid (Bk w5 w.heap.size s ao cap) := by rw [← hw5]; exact Cells.drew HZ1.out
      have HV2 : Hid (Bk w5 (w.heap.size + 1) .zero none 0) := by rw [← hw5]; exact Cells.drew HZ2.out
      have HVW : Hid (Below w.heap.size w w5) := by rw [← hw5]; exact HZW.out.drew
      have HVL : Hid (w.heap.size ≤ w5.heap.size) := by rw [← hw5]; exact HZL.out
      have a0 : w5.cell? ⟨wr.heap.size, 0, none⟩ = some (.int .i32 x.x) := by rw [hx5.cell]; rfl
      have a1 : w5.cell? ⟨wr.heap.size, 1, none⟩ = some (.int .i32 x.y) := by rw [hx5.cell]; rfl
      have a2 : w5.cell? ⟨wr.heap.size, 2, none⟩ = some (.int .i32 x.vx) := by rw [hx5.cell]; rfl
      have a3 : w5.cell? ⟨wr.heap.size, 3, none⟩ = some (.int .i32 x.vy) := by rw [hx5.cell]; rfl
      have a4 : w5.cell? ⟨wr.heap.size, 4, none⟩ = some (.int .u8 (x.h : Int)) := by rw [hx5.cell]; rfl
      have a5 : w5.cell? ⟨wr.heap.size, 5, none⟩ = some (.int .u8 (x.c : Int)) := by rw [hx5.cell]; rfl
      have a6 : w5.cell? ⟨wr.heap.size, 6, none⟩ = some (.int .u8 (x.f : Int)) := by rw [hx5.cell]; rfl
      obtain ⟨WW, hst, hWW⟩ : ∃ WW : Int → Int → Int → Int → Int → Int → Int → World, (∀ a b c d e f g : Int, (storePl (.pointer (some ⟨w.heap.size + 1 + 1, 2, none⟩)) (.agg #[.int .i32 a, .int .i32 b, .int .i32 c, .int .i32 d, .int .u8 e, .int .u8 f, .int .u8 g])).run Tryd.prog w5 = .ok () (WW a b c d e f g)) ∧
          ∀ (p' : Pl) (e f g : Int), e = (p'.h : Int) → f = (p'.c : Int) → g = (p'.f : Int) → w5.grownBy (WW p'.x p'.y p'.vx p'.vy e f g) (some (w.heap.size + 1 + 1)) ∧ Bk (WW p'.x p'.y p'.vx p'.vy e f g) (w.heap.size + 1 + 1) { stk s 0 with p := p' } ao cap :=
        ⟨_, fun a b c d e f g => run_storePl 2 hb5 (by simp) rfl (by simp [Value.oneCell']), fun p' e f g he hf hg => by subst he hf hg; exact ⟨grown_setRow _ _ _, setRow_heap _ _ _ _ _ _ hb5⟩⟩
      have HREL : Hid (∀ (p' : Pl) (e f g : Int), p' = mdP x → e = (p'.h : Int) → f = (p'.c : Int) → g = (p'.f : Int) → Hid (Bk (WW p'.x p'.y p'.vx p'.vy e f g) w.heap.size s ao cap) ∧ Hid (Bk (WW p'.x p'.y p'.vx p'.vy e f g) (w.heap.size + 1) .zero none 0) ∧ Hid (Bk (WW p'.x p'.y p'.vx p'.vy e f g) (w.heap.size + 1 + 1) (stk s 1) ao cap) ∧ Hid (Below w.heap.size w (WW p'.x p'.y p'.vx p'.vy e f g))) := fun p' e f g hp he hf hg => by
        have hq := hWW p' e f g he hf hg
        refine ⟨bk_grown HV1.out hq.1 (by simp; omega), bk_grown HV2.out hq.1 (by simp), ?_, HVW.out.trans (grown_nb hq.1 (fun q e => by cases e; omega) HVL.out)⟩
        rw [← HSK.out, ← hp]
        exact hq.2
      clear hWW hb5 hx5 HZ1 HZ2 HZ3 HCX HZW HZL HV1 HV2 HVW HVL
      refine wp_region_still_tail 26 (by kernel_rfl) (by kernel_rfl) ?_
      simp only [List.take_succ_cons, List.take_zero, List.drop_succ_cons, List.drop_zero]
      rw [hw5]
      clear hw5
      repeat still_step
      still_call ((near_c x.x 0 61440 _ fx (by unfold i32; decide) (by unfold i32; decide) (by decide)).mono fun _ _ ⟨h1, h2⟩ => ⟨h1, h2.symm⟩)
      repeat still_step
      still_call ((near_c x.y 0 28672 _ fy (by unfold i32; decide) (by unfold i32; decide) (by decide)).mono fun _ _ ⟨h1, h2⟩ => ⟨h1, h2.symm⟩)
      repeat still_step
      still_call ((near_c x.vx (-1024) 1024 _ fvx (by unfold i32; decide) (by unfold i32; decide) (by decide)).mono fun _ _ ⟨h1, h2⟩ => ⟨h1, h2.symm⟩)
      repeat still_step
      still_call ((near_c x.vy (-1024) 1024 _ fvy (by unfold i32; decide) (by unfold i32; decide) (by decide)).mono fun _ _ ⟨h1, h2⟩ => ⟨h1, h2.symm⟩)
      repeat still_step
      refine wpStill_nil ?_
      go_wp2
      go_roundw
      case rel =>
        refine ⟨1, by omega, by first | rfl | go_num, HREL.out (mdP x) _ _ _ rfl ?_ ?_ ?_⟩
        all_goals (simp [mdP])
      case measure => simp [intOf]
    · obtain ⟨fx, fy, fvx, fvy, fh, fc, ff⟩ := HFQ.out
      have HZ1 : Hid (Bk (wr.alloc (.cells #[.int .i32 s.q.x, .int .i32 s.q.y, .int .i32 s.q.vx, .int .i32 s.q.vy, .int .u8 (s.q.h : Int), .int .u8 (s.q.c : Int), .int .u8 (s.q.f : Int)] 24)) w.heap.size s ao cap) := bk_grown HC1.out (grown_alloc _ _) (by simp)
      have HZ2 : Hid (Bk (wr.alloc (.cells #[.int .i32 s.q.x, .int .i32 s.q.y, .int .i32 s.q.vx, .int .i32 s.q.vy, .int .u8 (s.q.h : Int), .int .u8 (s.q.c : Int), .int .u8 (s.q.f : Int)] 24)) (w.heap.size + 1) .zero none 0) := bk_grown HC2.out (grown_alloc _ _) (by simp)
      have HZ3 : Hid (Bk (wr.alloc (.cells #[.int .i32 s.q.x, .int .i32 s.q.y, .int .i32 s.q.vx, .int .i32 s.q.vy, .int .u8 (s.q.h : Int), .int .u8 (s.q.c : Int), .int .u8 (s.q.f : Int)] 24)) (w.heap.size + 1 + 1) (stk s 1) ao cap) := bk_grown HC3.out (grown_alloc _ _) (by simp)
      have HZW : Hid (Below w.heap.size w (wr.alloc (.cells #[.int .i32 s.q.x, .int .i32 s.q.y, .int .i32 s.q.vx, .int .i32 s.q.vy, .int .u8 (s.q.h : Int), .int .u8 (s.q.c : Int), .int .u8 (s.q.f : Int)] 24))) := HCW.out.alloc HCW.out.size _
      have HCX : Hid (Cells (wr.alloc (.cells #[.int .i32 s.q.x, .int .i32 s.q.y, .int .i32 s.q.vx, .int .i32 s.q.vy, .int .u8 (s.q.h : Int), .int .u8 (s.q.c : Int), .int .u8 (s.q.f : Int)] 24)) wr.heap.size 24 #[.int .i32 s.q.x, .int .i32 s.q.y, .int .i32 s.q.vx, .int .i32 s.q.vy, .int .u8 (s.q.h : Int), .int .u8 (s.q.c : Int), .int .u8 (s.q.f : Int)]) := Cells.made _ _ _
      have HSK : Hid ({ stk s 1 with q := mdP s.q } = stk s 2) := rfl
      have HZL : Hid (w.heap.size ≤ (wr.alloc (.cells #[.int .i32 s.q.x, .int .i32 s.q.y, .int .i32 s.q.vx, .int .i32 s.q.vy, .int .u8 (s.q.h : Int), .int .u8 (s.q.c : Int), .int .u8 (s.q.f : Int)] 24)).heap.size) := by show _ ≤ _; simp; have := HCW.out.size; omega
      clear HC1 HC2 HC3 HCW HFP HFQ hlt3
      generalize s.q = x at *
      go_wp2_with fail
      generalize wr.alloc (.cells #[.int .i32 x.x, .int .i32 x.y, .int .i32 x.vx, .int .i32 x.vy, .int .u8 (x.h : Int), .int .u8 (x.c : Int), .int .u8 (x.f : Int)] 24) = wz at *
      clear c0 c1 c2 c3 c4 c5 c6 c7 c8 c9 c10 c11 c12 c13 c14 c15 c16 c17 c18
      obtain ⟨w5, hw5⟩ : ∃ w5 : World, { wz with drawn := wz.drawn + 1 } = w5 := ⟨_, rfl⟩
      have hb5 : Bk w5 (w.heap.size + 1 + 1) (stk s 1) ao cap := by rw [← hw5]; exact Cells.drew HZ3.out
      have hx5 : Cells w5 wr.heap.size 24 #[.int .i32 x.x, .int .i32 x.y, .int .i32 x.vx, .int .i32 x.vy, .int .u8 (x.h : Int), .int .u8 (x.c : Int), .int .u8 (x.f : Int)] := by rw [← hw5]; exact Cells.drew HCX.out
      have HV1 : Hid (Bk w5 w.heap.size s ao cap) := by rw [← hw5]; exact Cells.drew HZ1.out
      have HV2 : Hid (Bk w5 (w.heap.size + 1) .zero none 0) := by rw [← hw5]; exact Cells.drew HZ2.out
      have HVW : Hid (Below w.heap.size w w5) := by rw [← hw5]; exact HZW.out.drew
      have HVL : Hid (w.heap.size ≤ w5.heap.size) := by rw [← hw5]; exact HZL.out
      have a0 : w5.cell? ⟨wr.heap.size, 0, none⟩ = some (.int .i32 x.x) := by rw [hx5.cell]; rfl
      have a1 : w5.cell? ⟨wr.heap.size, 1, none⟩ = some (.int .i32 x.y) := by rw [hx5.cell]; rfl
      have a2 : w5.cell? ⟨wr.heap.size, 2, none⟩ = some (.int .i32 x.vx) := by rw [hx5.cell]; rfl
      have a3 : w5.cell? ⟨wr.heap.size, 3, none⟩ = some (.int .i32 x.vy) := by rw [hx5.cell]; rfl
      have a4 : w5.cell? ⟨wr.heap.size, 4, none⟩ = some (.int .u8 (x.h : Int)) := by rw [hx5.cell]; rfl
      have a5 : w5.cell? ⟨wr.heap.size, 5, none⟩ = some (.int .u8 (x.c : Int)) := by rw [hx5.cell]; rfl
      have a6 : w5.cell? ⟨wr.heap.size, 6, none⟩ = some (.int .u8 (x.f : Int)) := by rw [hx5.cell]; rfl
      obtain ⟨WW, hst, hWW⟩ : ∃ WW : Int → Int → Int → Int → Int → Int → Int → World, (∀ a b c d e f g : Int, (storePl (.pointer (some ⟨w.heap.size + 1 + 1, 9, none⟩)) (.agg #[.int .i32 a, .int .i32 b, .int .i32 c, .int .i32 d, .int .u8 e, .int .u8 f, .int .u8 g])).run Tryd.prog w5 = .ok () (WW a b c d e f g)) ∧
          ∀ (p' : Pl) (e f g : Int), e = (p'.h : Int) → f = (p'.c : Int) → g = (p'.f : Int) → w5.grownBy (WW p'.x p'.y p'.vx p'.vy e f g) (some (w.heap.size + 1 + 1)) ∧ Bk (WW p'.x p'.y p'.vx p'.vy e f g) (w.heap.size + 1 + 1) { stk s 1 with q := p' } ao cap :=
        ⟨_, fun a b c d e f g => run_storePl 9 hb5 (by simp) rfl (by simp [Value.oneCell']), fun p' e f g he hf hg => by subst he hf hg; exact ⟨grown_setRow _ _ _, setRow_heap _ _ _ _ _ _ hb5⟩⟩
      have HREL : Hid (∀ (p' : Pl) (e f g : Int), p' = mdP x → e = (p'.h : Int) → f = (p'.c : Int) → g = (p'.f : Int) → Hid (Bk (WW p'.x p'.y p'.vx p'.vy e f g) w.heap.size s ao cap) ∧ Hid (Bk (WW p'.x p'.y p'.vx p'.vy e f g) (w.heap.size + 1) .zero none 0) ∧ Hid (Bk (WW p'.x p'.y p'.vx p'.vy e f g) (w.heap.size + 1 + 1) (stk s 2) ao cap) ∧ Hid (Below w.heap.size w (WW p'.x p'.y p'.vx p'.vy e f g))) := fun p' e f g hp he hf hg => by
        have hq := hWW p' e f g he hf hg
        refine ⟨bk_grown HV1.out hq.1 (by simp; omega), bk_grown HV2.out hq.1 (by simp), ?_, HVW.out.trans (grown_nb hq.1 (fun q e => by cases e; omega) HVL.out)⟩
        rw [← HSK.out, ← hp]
        exact hq.2
      clear hWW hb5 hx5 HZ1 HZ2 HZ3 HCX HZW HZL HV1 HV2 HVW HVL
      refine wp_region_still_tail 26 (by kernel_rfl) (by kernel_rfl) ?_
      simp only [List.take_succ_cons, List.take_zero, List.drop_succ_cons, List.drop_zero]
      rw [hw5]
      clear hw5
      repeat still_step
      still_call ((near_c x.x 0 61440 _ fx (by unfold i32; decide) (by unfold i32; decide) (by decide)).mono fun _ _ ⟨h1, h2⟩ => ⟨h1, h2.symm⟩)
      repeat still_step
      still_call ((near_c x.y 0 28672 _ fy (by unfold i32; decide) (by unfold i32; decide) (by decide)).mono fun _ _ ⟨h1, h2⟩ => ⟨h1, h2.symm⟩)
      repeat still_step
      still_call ((near_c x.vx (-1024) 1024 _ fvx (by unfold i32; decide) (by unfold i32; decide) (by decide)).mono fun _ _ ⟨h1, h2⟩ => ⟨h1, h2.symm⟩)
      repeat still_step
      still_call ((near_c x.vy (-1024) 1024 _ fvy (by unfold i32; decide) (by unfold i32; decide) (by decide)).mono fun _ _ ⟨h1, h2⟩ => ⟨h1, h2.symm⟩)
      repeat still_step
      refine wpStill_nil ?_
      go_wp2
      go_roundw
      case rel =>
        refine ⟨2, by omega, by first | rfl | go_num, HREL.out (mdP x) _ _ _ rfl ?_ ?_ ?_⟩
        all_goals (simp [mdP])
      case measure => simp [intOf]
    · clear c0 c1 c2 c3 c4 c5 c6 c7 c8 c9 c10 c11 c12 c13 c14 c15 c16 c17 c18 HFP HFQ
      rw [show ((2 : Nat) : Int) = 2 from rfl]
      have e16 := HC3.out.of 16 _ rfl
      have f16 := Cells.frozen HC3.out 16
      go_wp2
      have HD1 : Hid (Bk (wr.setCell ⟨w.heap.size + 1 + 1, 16, none⟩ (.slice none 0 0)) w.heap.size s ao cap) := Cells.far HC1.out (by show w.heap.size ≠ w.heap.size + 1 + 1; omega) _
      have HD2 : Hid (Bk (wr.setCell ⟨w.heap.size + 1 + 1, 16, none⟩ (.slice none 0 0)) (w.heap.size + 1) .zero none 0) := Cells.far HC2.out (by show w.heap.size + 1 ≠ w.heap.size + 1 + 1; omega) _
      have HD3 : Hid (Bk (wr.setCell ⟨w.heap.size + 1 + 1, 16, none⟩ (.slice none 0 0)) (w.heap.size + 1 + 1) { stk s 2 with ss := [] } none 0) := bk_set16 HC3.out [] 0 rfl none 0
      have HDW : Hid (Below w.heap.size w (wr.setCell ⟨w.heap.size + 1 + 1, 16, none⟩ (.slice none 0 0))) := HCW.out.setCell (by show w.heap.size ≤ w.heap.size + 1 + 1; omega) _
      clear e16 f16 hlt3 HC1 HC2 HC3 HCW
      generalize wr.setCell ⟨w.heap.size + 1 + 1, 16, none⟩ (.slice none 0 0) = wb at *
      have h2s : stk s 2 = { s with p := mdP s.p, q := mdP s.q } := rfl
      have H2S := Lib.hid h2s
      clear h2s
      generalize stk s 2 = s2 at *
      go_loopw [6] (fun v wr => ∃ (k : Nat) (ao' : Option Addr) (cap' : Nat), k ≤ 8 ∧ k ≤ s.ss.length ∧ v = .int .i64 k ∧ Hid (Bk wr w.heap.size s ao cap) ∧ Hid (Bk wr (w.heap.size + 1) .zero none 0) ∧ Hid (Bk wr (w.heap.size + 1 + 1) { s2 with ss := (s.ss.take k).map mdH } ao' cap') ∧ Hid (wr.ownsRow (w.heap.size + 1 + 1 + 1) 46 6 (.slice ao' k cap') k (Hall ((s.ss.take k).map mdH))) ∧ Hid (Below w.heap.size w wr)) (fun v _ => 8 - (intOf v).toNat)
      case atStart => exact ⟨0, none, 0, by omega, by omega, rfl, HD1, HD2, by first | exact HD3 | simpa using HD3, World.ownsRow_nil _ _ _ _, HDW⟩
      case round =>
        obtain ⟨k, ao', cap', hk8, hkl, rfl, HR1, HR2, HR3, HRO, HRW⟩ := hrel
        clear HD1 HD2 HD3 HDW
        have hlen : ((s.ss.take k).map mdH).length = k := by simp; omega
        have c16 := HR1.out.of 16 _ rfl
        have e16 : wr.cell? ⟨w.heap.size + 1 + 1, 16, none⟩ = some (.slice ao' k cap') := by have := HR3.out.of 16 (.slice ao' ((s.ss.take k).map mdH).length cap') rfl; rwa [hlen] at this
        have hlt3 := Cells.lt HR3.out
        have HLN := Lib.hid hlen
        have hob : ∀ a, ao' = some a → some (w.heap.size + 1) ≠ some a.block := fun a e q => by
          subst e
          have h9 := Option.some.inj q
          rcases HRO.out.2 with ⟨e0, _⟩ | ⟨g0, _, _, e0, e1, _⟩
          · cases e0
          · injection e0 with e2
            have e3 := Option.some.inj e2
            subst e3
            dsimp only at h9
            omega
        have HOB := Lib.hid hob
        clear hlen hob
        by_cases hlt : k < s.ss.length
        · by_cases hlt8 : k < 8
          · have HSr := Shs_grown HS.out (grown_of_below (r := none) HRW.out) (by simp)
            obtain ⟨hfx, b, o, hao, hc⟩ := HSr k hlt
            subst hao
            have d0 : wr.cell? ⟨b, o + k * 6, none⟩ = some (.int .i32 (s.ss[k]'hlt).x) := hc 0 _ rfl
            have d1 := hc 1 _ rfl
            have d2 := hc 2 _ rfl
            have d3 := hc 3 _ rfl
            have d4 := hc 4 _ rfl
            have d5 := hc 5 _ rfl
            have HTK : Hid ((s.ss.take (k + 1)).map mdH = (s.ss.take k).map mdH ++ [mdH (s.ss[k]'hlt)]) := by show _ = _; rw [List.take_succ_eq_append_getElem hlt, List.map_append]; rfl
            have hki : (k : Int) < (s.ss.length : Int) := by omega
            have hki8 : (k : Int) < 8 := by omega
            clear hc HSr HFS
            generalize (s.ss[k]'hlt) = x at *
            obtain ⟨fx, fy, fvx, fvy, fo, fl⟩ := hfx
            obtain ⟨y, hy⟩ : ∃ y, y = mdH x := ⟨_, rfl⟩
            have N0 : Hid (∀ W, Calls Tryd.prog 55 #[.int .i32 x.x, .int .i32 0, .int .i32 65024] W fun E w' => E = .returned (.int .i32 y.x) ∧ W = w') := fun W => by rw [hy]; exact near_c x.x 0 65024 W fx (by unfold i32; decide) (by unfold i32; decide) (by decide)
            have N1 : Hid (∀ W, Calls Tryd.prog 55 #[.int .i32 x.y, .int .i32 0, .int .i32 32256] W fun E w' => E = .returned (.int .i32 y.y) ∧ W = w') := fun W => by rw [hy]; exact near_c x.y 0 32256 W fy (by unfold i32; decide) (by unfold i32; decide) (by decide)
            have N2 : Hid (∀ W, Calls Tryd.prog 55 #[.int .i32 x.vx, .int .i32 (-2048), .int .i32 2048] W fun E w' => E = .returned (.int .i32 y.vx) ∧ W = w') := fun W => by rw [hy]; exact near_c x.vx (-2048) 2048 W fvx (by unfold i32; decide) (by unfold i32; decide) (by decide)
            have N3 : Hid (∀ W, Calls Tryd.prog 55 #[.int .i32 x.vy, .int .i32 (-2048), .int .i32 2048] W fun E w' => E = .returned (.int .i32 y.vy) ∧ W = w') := fun W => by rw [hy]; exact near_c x.vy (-2048) 2048 W fvy (by unfold i32; decide) (by unfold i32; decide) (by decide)
            have ho : ((x.o : Int)).tmod 2 = (y.o : Int) := by rw [hy, Int.tmod_eq_emod_of_nonneg (by omega)]; simp only [mdH]; omega
            have hl40 : IntKind.u8.wrap (1 + ((x.l : Int)).tmod 40) = (y.l : Int) := by rw [hy, Int.tmod_eq_emod_of_nonneg (by omega)]; simp only [mdH, IntKind.wrap, IntKind.bits, IntKind.signed]; simp; omega
            have HNE : Hid (some (w.heap.size + 1 + 1) ≠ (Value.slice ao' k cap').ownBlock ∧ some wr.heap.size ≠ (Value.slice ao' k cap').ownBlock ∧ some (w.heap.size + 1) ≠ (Value.slice ao' k cap').ownBlock ∧ some w.heap.size ≠ (Value.slice ao' k cap').ownBlock) := by
              refine ⟨?_, ?_, ?_, ?_⟩ <;> intro e <;> have h7 := HRO.out.lt _ e.symm <;> omega
            rw [← hy] at HTK
            clear fx fy fvx fvy fo fl hy
            have HX1 : Hid (Bk (wr.alloc (.cells #[.int .i32 x.x, .int .i32 x.y, .int .i32 x.vx, .int .i32 x.vy, .int .u8 (x.o : Int), .int .u8 (x.l : Int)] 46)) w.heap.size s (some ⟨b, o, none⟩) cap) := bk_grown HR1.out (grown_alloc _ _) (by simp)
            have HX2 : Hid (Bk (wr.alloc (.cells #[.int .i32 x.x, .int .i32 x.y, .int .i32 x.vx, .int .i32 x.vy, .int .u8 (x.o : Int), .int .u8 (x.l : Int)] 46)) (w.heap.size + 1) .zero none 0) := bk_grown HR2.out (grown_alloc _ _) (by simp)
            have HX3 : Hid (Bk (wr.alloc (.cells #[.int .i32 x.x, .int .i32 x.y, .int .i32 x.vx, .int .i32 x.vy, .int .u8 (x.o : Int), .int .u8 (x.l : Int)] 46)) (w.heap.size + 1 + 1) { s2 with ss := (s.ss.take k).map mdH } ao' cap') := bk_grown HR3.out (grown_alloc _ _) (by simp)
            have HXO : Hid ((wr.alloc (.cells #[.int .i32 x.x, .int .i32 x.y, .int .i32 x.vx, .int .i32 x.vy, .int .u8 (x.o : Int), .int .u8 (x.l : Int)] 46)).ownsRow (w.heap.size + 1 + 1 + 1) 46 6 (.slice ao' k cap') k (Hall ((s.ss.take k).map mdH))) := World.ownsRow.alloc HRO.out _
            have HXW : Hid (Below w.heap.size w (wr.alloc (.cells #[.int .i32 x.x, .int .i32 x.y, .int .i32 x.vx, .int .i32 x.vy, .int .u8 (x.o : Int), .int .u8 (x.l : Int)] 46))) := HRW.out.alloc HRW.out.size _
            have HCX : Hid (Cells (wr.alloc (.cells #[.int .i32 x.x, .int .i32 x.y, .int .i32 x.vx, .int .i32 x.vy, .int .u8 (x.o : Int), .int .u8 (x.l : Int)] 46)) wr.heap.size 46 #[.int .i32 x.x, .int .i32 x.y, .int .i32 x.vx, .int .i32 x.vy, .int .u8 (x.o : Int), .int .u8 (x.l : Int)]) := Cells.made _ _ _
            have HXL : Hid (w.heap.size + 1 + 1 < (wr.alloc (.cells #[.int .i32 x.x, .int .i32 x.y, .int .i32 x.vx, .int .i32 x.vy, .int .u8 (x.o : Int), .int .u8 (x.l : Int)] 46)).heap.size) := by show _ < _; simp; omega
            have x16 : (wr.alloc (.cells #[.int .i32 x.x, .int .i32 x.y, .int .i32 x.vx, .int .i32 x.vy, .int .u8 (x.o : Int), .int .u8 (x.l : Int)] 46)).cell? ⟨w.heap.size + 1 + 1, 16, none⟩ = some (.slice ao' k cap') := by have := HX3.out.of 16 (.slice ao' ((s.ss.take k).map mdH).length cap') rfl; rwa [HLN.out] at this
            clear HR1 HR2 HR3 HRO HRW
            generalize hold : (s.ss.take k).map mdH = old at *
            have HOE := Lib.hid hold
            clear hold
            go_wp2_with fail
            generalize wr.alloc (.cells #[.int .i32 x.x, .int .i32 x.y, .int .i32 x.vx, .int .i32 x.vy, .int .u8 (x.o : Int), .int .u8 (x.l : Int)] 46) = wz at *
            clear c16 e16 d0 d1 d2 d3 d4 d5 hlt3
            have HV1 : Hid (Bk wz.drew w.heap.size s (some ⟨b, o, none⟩) cap) := Cells.drew HX1.out
            have HV2 : Hid (Bk wz.drew (w.heap.size + 1) .zero none 0) := Cells.drew HX2.out
            have HV3 : Hid (Bk wz.drew (w.heap.size + 1 + 1) { s2 with ss := old } ao' cap') := Cells.drew HX3.out
            have HVO : Hid (wz.drew.ownsRow (w.heap.size + 1 + 1 + 1) 46 6 (.slice ao' k cap') k (Hall old)) := kept_row (r := 0) HXO.out (grown_drewN wz 1 (some 0)) (by omega)
            have HVW : Hid (Below w.heap.size w wz.drew) := HXW.out.drew
            have HVL : Hid (w.heap.size + 1 + 1 < wz.drew.heap.size) := HXL.out
            have s0 : Cells wz.drew wr.heap.size 46 #[.int .i32 x.x, .int .i32 x.y, .int .i32 x.vx, .int .i32 x.vy, .int .u8 (x.o : Int), .int .u8 (x.l : Int)] := Cells.drew HCX.out
            have x16d : wz.drew.cell? ⟨w.heap.size + 1 + 1, 16, none⟩ = some (.slice ao' k cap') := x16
            have a0 : ∀ w', Cells w' wr.heap.size 46 #[.int .i32 x.x, .int .i32 x.y, .int .i32 x.vx, .int .i32 x.vy, .int .u8 (x.o : Int), .int .u8 (x.l : Int)] → w'.cell? ⟨wr.heap.size, 0, none⟩ = some (.int .i32 x.x) := fun w' h => by rw [h.cell]; rfl
            have a1 : ∀ w', Cells w' wr.heap.size 46 #[.int .i32 x.x, .int .i32 x.y, .int .i32 x.vx, .int .i32 x.vy, .int .u8 (x.o : Int), .int .u8 (x.l : Int)] → w'.cell? ⟨wr.heap.size, 1, none⟩ = some (.int .i32 x.y) := fun w' h => by rw [h.cell]; rfl
            have a2 : ∀ w', Cells w' wr.heap.size 46 #[.int .i32 x.x, .int .i32 x.y, .int .i32 x.vx, .int .i32 x.vy, .int .u8 (x.o : Int), .int .u8 (x.l : Int)] → w'.cell? ⟨wr.heap.size, 2, none⟩ = some (.int .i32 x.vx) := fun w' h => by rw [h.cell]; rfl
            have a3 : ∀ w', Cells w' wr.heap.size 46 #[.int .i32 x.x, .int .i32 x.y, .int .i32 x.vx, .int .i32 x.vy, .int .u8 (x.o : Int), .int .u8 (x.l : Int)] → w'.cell? ⟨wr.heap.size, 3, none⟩ = some (.int .i32 x.vy) := fun w' h => by rw [h.cell]; rfl
            have a4 : ∀ w', Cells w' wr.heap.size 46 #[.int .i32 x.x, .int .i32 x.y, .int .i32 x.vx, .int .i32 x.vy, .int .u8 (x.o : Int), .int .u8 (x.l : Int)] → w'.cell? ⟨wr.heap.size, 4, none⟩ = some (.int .u8 (x.o : Int)) := fun w' h => by rw [h.cell]; rfl
            have a5 : ∀ w', Cells w' wr.heap.size 46 #[.int .i32 x.x, .int .i32 x.y, .int .i32 x.vx, .int .i32 x.vy, .int .u8 (x.o : Int), .int .u8 (x.l : Int)] → w'.cell? ⟨wr.heap.size, 5, none⟩ = some (.int .u8 (x.l : Int)) := fun w' h => by rw [h.cell]; rfl
            obtain ⟨i0, hi0, hz0, hz1, hz2⟩ := info_parts info_Shot
            have HI0 := Lib.hid hi0
            have HZ0 := Lib.hid hz0
            have HZ1 := Lib.hid hz1
            have HZ2 := Lib.hid hz2
            clear hi0 hz0 hz1 hz2 HX1 HX2 HX3 HXO HXW HXL HCX
            have hb1 : k + 1 ≤ maxLen := by simp only [maxLen]; omega
            have hb2 : (k + 1) * 20 ≤ 140737488355328 := by omega
            have x16a : (wz.drew.alloc (.cells #[.int .i32 y.x, .int .i32 y.y, .int .i32 y.vx, .int .i32 y.vy, .int .u8 (y.o : Int), .int .u8 (y.l : Int)] 46)).cell? ⟨w.heap.size + 1 + 1, 16, none⟩ = some (.slice ao' k cap') := by rw [World.cell?_alloc_some _ _ _ (by rw [x16d]; rfl)]; exact x16d
            refine wp_region_till (S := fun w' => Cells w' wr.heap.size 46 #[.int .i32 x.x, .int .i32 x.y, .int .i32 x.vx, .int .i32 x.vy, .int .u8 (x.o : Int), .int .u8 (x.l : Int)] ∧ w'.cell? ⟨w.heap.size + 1 + 1, 16, none⟩ = some (.slice ao' k cap')) (by kernel_rfl) ?_
            refine wpTill_take (i := 0) (v := ?vB0) rfl (by kernel_rfl) (fun _ _ _ h => h) (Or.inl ⟨by rfl, ?hyB0⟩) (And.intro s0 x16d) ?restB0
            case hyB0 => (intro W hW; (try dsimp only at hW); obtain ⟨hW1, hW2⟩ := hW; go_simp; try with_reducible rfl)
            simp only [Act.put, List.setIfInBounds_toArray, List.set_cons_zero, List.set_cons_succ]
            refine wpTill_take (i := 1) (v := ?vB1) rfl (by kernel_rfl) (fun _ _ _ h => h) (Or.inl ⟨by rfl, ?hyB1⟩) (And.intro s0 x16d) ?restB1
            case hyB1 => (intro W hW; (try dsimp only at hW); obtain ⟨hW1, hW2⟩ := hW; go_simp; try with_reducible rfl)
            simp only [Act.put, List.setIfInBounds_toArray, List.set_cons_zero, List.set_cons_succ]
            refine wpTill_take (i := 2) (v := ?vB2) rfl (by kernel_rfl) (fun _ _ _ h => h) (Or.inl ⟨by rfl, ?hyB2⟩) (And.intro s0 x16d) ?restB2
            case hyB2 => (intro W hW; (try dsimp only at hW); obtain ⟨hW1, hW2⟩ := hW; go_simp; try with_reducible rfl)
            simp only [Act.put, List.setIfInBounds_toArray, List.set_cons_zero, List.set_cons_succ]
            refine wpTill_take (i := 3) (v := ?vB3) rfl (by kernel_rfl) (fun _ _ _ h => h) (Or.inl ⟨by rfl, ?hyB3⟩) (And.intro s0 x16d) ?restB3
            case hyB3 => (intro W hW; (try dsimp only at hW); obtain ⟨hW1, hW2⟩ := hW; go_simp; try with_reducible rfl)
            simp only [Act.put, List.setIfInBounds_toArray, List.set_cons_zero, List.set_cons_succ]
            refine wpTill_take (i := 5) (v := ?vB5) rfl (by kernel_rfl) (fun _ _ _ h => h) (Or.inl ⟨by rfl, ?hyB5⟩) (And.intro s0 x16d) ?restB5
            case hyB5 => (intro W hW; (try dsimp only at hW); obtain ⟨hW1, hW2⟩ := hW; go_simp; try with_reducible rfl)
            simp only [Act.put, List.setIfInBounds_toArray, List.set_cons_zero, List.set_cons_succ]
            refine wpTill_take (i := 6) (v := ?vB6) rfl (by kernel_rfl) (fun _ _ _ h => h) (Or.inl ⟨by rfl, ?hyB6⟩) (And.intro s0 x16d) ?restB6
            case hyB6 => (intro W hW; (try dsimp only at hW); obtain ⟨hW1, hW2⟩ := hW; go_simp; try with_reducible rfl)
            simp only [Act.put, List.setIfInBounds_toArray, List.set_cons_zero, List.set_cons_succ]
            refine wpTill_take (i := 8) (v := ?vB8) rfl (by kernel_rfl) (fun _ _ _ h => h) (Or.inl ⟨by rfl, ?hyB8⟩) (And.intro s0 x16d) ?restB8
            case hyB8 => (intro W hW; (try dsimp only at hW); obtain ⟨hW1, hW2⟩ := hW; go_simp; try with_reducible rfl)
            simp only [Act.put, List.setIfInBounds_toArray, List.set_cons_zero, List.set_cons_succ]
            refine wpTill_take (i := 9) (v := ?vB9) rfl (by kernel_rfl) (fun _ _ _ h => h) (Or.inl ⟨by rfl, ?hyB9⟩) (And.intro s0 x16d) ?restB9
            case hyB9 => (intro W hW; (try dsimp only at hW); obtain ⟨hW1, hW2⟩ := hW; go_simp; try with_reducible rfl)
            simp only [Act.put, List.setIfInBounds_toArray, List.set_cons_zero, List.set_cons_succ]
            refine wpTill_take (i := 11) (v := ?vB11) rfl (by kernel_rfl) (fun _ _ _ h => h) (Or.inl ⟨by rfl, ?hyB11⟩) (And.intro s0 x16d) ?restB11
            case hyB11 => (intro W hW; (try dsimp only at hW); obtain ⟨hW1, hW2⟩ := hW; go_simp; try with_reducible rfl)
            simp only [Act.put, List.setIfInBounds_toArray, List.set_cons_zero, List.set_cons_succ]
            refine wpTill_take (i := 12) (v := ?vB12) rfl (by kernel_rfl) (fun _ _ _ h => h) (Or.inl ⟨by rfl, ?hyB12⟩) (And.intro s0 x16d) ?restB12
            case hyB12 => (intro W hW; (try dsimp only at hW); obtain ⟨hW1, hW2⟩ := hW; go_simp; try with_reducible rfl)
            simp only [Act.put, List.setIfInBounds_toArray, List.set_cons_zero, List.set_cons_succ]
            refine wpTill_take (i := 14) (v := ?vB14) rfl (by kernel_rfl) (fun _ _ _ h => h) (Or.inl ⟨by rfl, ?hyB14⟩) (And.intro s0 x16d) ?restB14
            case hyB14 => (intro W hW; (try dsimp only at hW); obtain ⟨hW1, hW2⟩ := hW; go_simp; try with_reducible rfl)
            simp only [Act.put, List.setIfInBounds_toArray, List.set_cons_zero, List.set_cons_succ]
            refine wpTill_take (i := 15) (v := ?vB15) rfl (by kernel_rfl) (fun _ _ _ h => h) (Or.inl ⟨by rfl, ?hyB15⟩) (And.intro s0 x16d) ?restB15
            case hyB15 => (intro W hW; (try dsimp only at hW); obtain ⟨hW1, hW2⟩ := hW; go_simp; try with_reducible rfl)
            simp only [Act.put, List.setIfInBounds_toArray, List.set_cons_zero, List.set_cons_succ]
            refine wpTill_take (i := 16) (v := ?vB16) rfl (by kernel_rfl) (fun _ _ _ h => h) (Or.inl ⟨by rfl, ?hyB16⟩) (And.intro s0 x16d) ?restB16
            case hyB16 => (intro W hW; (try dsimp only at hW); obtain ⟨hW1, hW2⟩ := hW; go_simp; try with_reducible rfl)
            simp only [Act.put, List.setIfInBounds_toArray, List.set_cons_zero, List.set_cons_succ]
            refine wpTill_take (i := 17) (v := ?vB17) rfl (by kernel_rfl) (fun _ _ _ h => h) (Or.inl ⟨by rfl, ?hyB17⟩) (And.intro s0 x16d) ?restB17
            case hyB17 => (intro W hW; (try dsimp only at hW); obtain ⟨hW1, hW2⟩ := hW; go_simp; try with_reducible rfl)
            simp only [Act.put, List.setIfInBounds_toArray, List.set_cons_zero, List.set_cons_succ]
            refine wpTill_take (i := 18) (v := ?vB18) rfl (by kernel_rfl) (fun _ _ _ h => h) (Or.inl ⟨by rfl, ?hyB18⟩) (And.intro s0 x16d) ?restB18
            case hyB18 => (intro W hW; (try dsimp only at hW); obtain ⟨hW1, hW2⟩ := hW; go_simp; try with_reducible rfl)
            simp only [Act.put, List.setIfInBounds_toArray, List.set_cons_zero, List.set_cons_succ]
            refine wpTill_take (i := 19) (v := ?vB19) rfl (by kernel_rfl) (fun _ _ _ h => h) (Or.inl ⟨by rfl, ?hyB19⟩) (And.intro s0 x16d) ?restB19
            case hyB19 => (intro W hW; (try dsimp only at hW); obtain ⟨hW1, hW2⟩ := hW; go_simp; try with_reducible rfl)
            simp only [Act.put, List.setIfInBounds_toArray, List.set_cons_zero, List.set_cons_succ]
            refine wpTill_take (i := 20) (v := ?vB20) rfl (by kernel_rfl) (fun _ _ _ h => h) (Or.inl ⟨by rfl, ?hyB20⟩) (And.intro s0 x16d) ?restB20
            case hyB20 => (intro W hW; (try dsimp only at hW); obtain ⟨hW1, hW2⟩ := hW; go_simp; try with_reducible rfl)
            simp only [Act.put, List.setIfInBounds_toArray, List.set_cons_zero, List.set_cons_succ]
            refine wpTill_run (i := 4) (by kernel_rfl) rfl (And.intro s0 x16d) (fun K hK => ?_)
            go_simp
            go_at_call 55
            with_reducible refine (N0.out _).mono ?_
            rintro E w4 ⟨rfl, rfl⟩
            refine hK _ _ ?_
            clear hK K
            refine wpTill_run (i := 7) (by kernel_rfl) rfl (And.intro s0 x16d) (fun K hK => ?_)
            go_simp
            go_at_call 55
            with_reducible refine (N1.out _).mono ?_
            rintro E w4 ⟨rfl, rfl⟩
            refine hK _ _ ?_
            clear hK K
            refine wpTill_run (i := 10) (by kernel_rfl) rfl (And.intro s0 x16d) (fun K hK => ?_)
            go_simp
            go_at_call 55
            with_reducible refine (N2.out _).mono ?_
            rintro E w4 ⟨rfl, rfl⟩
            refine hK _ _ ?_
            clear hK K
            refine wpTill_run (i := 13) (by kernel_rfl) rfl (And.intro s0 x16d) (fun K hK => ?_)
            go_simp
            go_at_call 55
            with_reducible refine (N3.out _).mono ?_
            rintro E w4 ⟨rfl, rfl⟩
            refine hK _ _ ?_
            clear hK K
            refine wpTill_take (i := 21) (v := ?vB21) rfl (by kernel_rfl) (fun _ _ _ h => h) (Or.inl ⟨by rfl, ?hyB21⟩) (And.intro s0 x16d) ?restB21
            case hyB21 => (intro W hW; (try dsimp only at hW); obtain ⟨hW1, hW2⟩ := hW; go_simp; try with_reducible rfl)
            simp only [Act.put, List.setIfInBounds_toArray, List.set_cons_zero, List.set_cons_succ]
            refine wpTill_run (i := 22) (by kernel_rfl) rfl (And.intro s0 x16d) (fun K hK => ?_)
            go_simp
            refine hK _ _ ?_
            clear hK K
            have s1 := And.intro (Cells.alloc s0 (.cells #[.int .i32 y.x, .int .i32 y.y, .int .i32 y.vx, .int .i32 y.vy, .int .u8 (y.o : Int), .int .u8 (y.l : Int)] 46)) x16a
            refine wpTill_run (i := 23) (by kernel_rfl) rfl s1 (fun K hK => ?_)
            refine step_append_lies _ rfl (.tmp 61) (.tmp 82) 26 rfl (w.heap.size + 1 + 1 + 1) 46 i0 (.agg #[.int .i32 0, .int .i32 0, .int .i32 0, .int .i32 0, .int .u8 0, .int .u8 0]) 6 20 Tryd.underlying26 HI0.out HZ0.out HZ1.out HZ2.out rfl (by decide) _ _ _ (by simp [Act.eval]) (World.ownsRow.alloc HVO.out _) ⟨wz.drew.heap.size, 0, none⟩ 1 1 (Hcs y) (by simp [Act.eval]) rfl (World.news_of_block (heap_alloc_new _ _)) (by simp [Hcs, Value.oneCell']) (by decide) hb1 hb2 (by have h9 := HVL.out; simp at h9 ⊢; omega) _ rfl ?_
            intro g' cap2 w6 hown1 hgr hat hlt1
            have hb3 := bk_grown (bk_grown HV3.out (grown_alloc _ _) (by simp)) hgr HNE.out.1
            have c16 := hb3.of 16 _ rfl
            have f16 := Cells.frozen hb3 16
            have hcx6 : Cells w6 wr.heap.size 46 #[.int .i32 x.x, .int .i32 x.y, .int .i32 x.vx, .int .i32 x.vy, .int .u8 (x.o : Int), .int .u8 (x.l : Int)] := Cells.grown (Cells.alloc s0 _) hgr HNE.out.2.1
            have s2 : Cells w6 wr.heap.size 46 #[.int .i32 x.x, .int .i32 x.y, .int .i32 x.vx, .int .i32 x.vy, .int .u8 (x.o : Int), .int .u8 (x.l : Int)] ∧ w6.cell? ⟨w.heap.size + 1 + 1, 16, none⟩ = some (.slice ao' k cap') := ⟨hcx6, by have := hb3.of 16 (.slice ao' old.length cap') rfl; rwa [HLN.out] at this⟩
            refine hK _ _ ?_
            clear hK K
            refine wpTill_take (i := 24) (v := ?vB24) rfl (by kernel_rfl) (fun _ _ _ h => h) (Or.inl ⟨by rfl, ?hyB24⟩) s2 ?restB24
            case hyB24 => (intro W hW; (try dsimp only at hW); obtain ⟨hW1, hW2⟩ := hW; go_simp; try with_reducible rfl)
            simp only [Act.put, List.setIfInBounds_toArray, List.set_cons_zero, List.set_cons_succ]
            refine wpTill_run (i := 25) (by kernel_rfl) rfl s2 (fun K hK => ?_)
            go_simp
            refine hK _ _ ?_
            clear hK K
            refine wpTill_done (by kernel_rfl) ?_
            have HD3 := Lib.hid hb3
            have HD1 := Lib.hid (bk_grown (bk_grown HV1.out (grown_alloc _ (.cells #[.int .i32 y.x, .int .i32 y.y, .int .i32 y.vx, .int .i32 y.vy, .int .u8 (y.o : Int), .int .u8 (y.l : Int)] 46)) (by simp)) hgr HNE.out.2.2.2)
            have HD2 := Lib.hid (bk_grown (bk_grown HV2.out (grown_alloc _ (.cells #[.int .i32 y.x, .int .i32 y.y, .int .i32 y.vx, .int .i32 y.vy, .int .u8 (y.o : Int), .int .u8 (y.l : Int)] 46)) (by simp)) hgr HNE.out.2.2.1)
            have HDO := Lib.hid hown1
            have HDW : Hid (Below w.heap.size w w6) := (HVW.out.alloc (by have h9 := HVL.out; omega) _).trans (grown_nb hgr (fun q e => by have h9 := (HVO.out.lt q e).1; omega) (by have h9 := HVL.out; simp at h9 ⊢; omega))
            clear hown1 hgr hat hb3 c16 f16 hcx6 s1 s2 s0 x16d x16a a0 a1 a2 a3 a4 a5 HV1 HV2 HV3 HVO HVW N0 N1 N2 N3
            go_wp2
            go_roundw
            case rel =>
              refine ⟨k + 1, some ⟨g', 0, none⟩, cap2, by omega, by omega, by go_num, Cells.far HD1.out (by show w.heap.size ≠ w.heap.size + 1 + 1; omega) _, Cells.far HD2.out (by show w.heap.size + 1 ≠ w.heap.size + 1 + 1; omega) _, ?_, ?_, HDW.out.setCell (by show w.heap.size ≤ w.heap.size + 1 + 1; omega) _⟩
              · rw [HTK.out]
                exact bk_set16 HD3.out (old ++ [y]) (k + 1) (by rw [List.length_append, HLN.out]; rfl) _ _
              · rw [HTK.out, Hall_snoc]
                exact ownsRow_setCell_below HDO.out (a := ⟨w.heap.size + 1 + 1, 16, none⟩) (by show w.heap.size + 1 + 1 < w.heap.size + 1 + 1 + 1; omega) _
            case measure => simp [intOf]; omega
          · have HFIN : Hid ({ s2 with ss := (s.ss.take k).map mdH } = md s) := by
              obtain rfl : k = 8 := by omega
              rw [H2S.out]; rfl
            have hki : (k : Int) < (s.ss.length : Int) := by omega
            have hki8 : ¬ (k : Int) < 8 := by omega
            have HSS2 : Hid ((md s).ss = (s.ss.take k).map mdH) := by show _ = _; rw [← HFIN.out]
            have hmf : ∀ x ∈ (s.ss.take k).map mdH, x.fit := fun x hx => by
              obtain ⟨y, _, rfl⟩ := List.mem_map.1 hx
              exact (mdH_good y).2
            rw [HFIN.out] at HR3
            clear HFIN hmf HFS e16 H2S
            have HMM : Hid (∀ E w', (∃ ao' cap', E = .returned (sv (md s) ao' cap') ∧ w'.ownsRow w.heap.size 46 6 (.slice ao' (md s).ss.length cap') (md s).ss.length (Hall (md s).ss) ∧ w.grownBy w' none) → Q E w') := HQ.out
            clear HQ
            generalize (s.ss.take k).map mdH = l at *
            generalize md s = m at *
            have hr1 : rowOf wr (w.heap.size + 1 + 1) = stc m ao' cap' := rowOf_cells HR3.out
            have hok : okRow wr (w.heap.size + 1) := okRow_bk HR2.out
            go_wp2
            refine bodyPost_ret (v := sv m ao' cap') ?_ rfl ?_
            · exact ret_state _ 2 _ Tryd.results22 (setRow_heap _ _ _ _ _ _ HR2.out) rfl rfl
            · refine HMM.out _ _ ⟨ao', cap', rfl, ?_, grown_of_below (below_setRow HRW.out (by omega) _)⟩
              rw [HSS2.out, HLN.out]
              exact owns_less (kept_row HRO.out (grown_setRow _ _ _) (by omega)) (by omega)
        · have HFIN : Hid ({ s2 with ss := (s.ss.take k).map mdH } = md s) := by
            obtain rfl : k = s.ss.length := by omega
            show _ = _
            rw [H2S.out, List.take_of_length_le (Nat.le_refl _)]
            unfold md
            rw [List.take_of_length_le (by omega)]
          have hki : ¬ (k : Int) < (s.ss.length : Int) := by omega
          have HSS2 : Hid ((md s).ss = (s.ss.take k).map mdH) := by show _ = _; rw [← HFIN.out]
          have hmf : ∀ x ∈ (s.ss.take k).map mdH, x.fit := fun x hx => by
            obtain ⟨y, _, rfl⟩ := List.mem_map.1 hx
            exact (mdH_good y).2
          rw [HFIN.out] at HR3
          clear HFIN hmf HFS e16 H2S
          have HMM : Hid (∀ E w', (∃ ao' cap', E = .returned (sv (md s) ao' cap') ∧ w'.ownsRow w.heap.size 46 6 (.slice ao' (md s).ss.length cap') (md s).ss.length (Hall (md s).ss) ∧ w.grownBy w' none) → Q E w') := HQ.out
          clear HQ
          generalize (s.ss.take k).map mdH = l at *
          generalize md s = m at *
          have hr1 : rowOf wr (w.heap.size + 1 + 1) = stc m ao' cap' := rowOf_cells HR3.out
          have hok : okRow wr (w.heap.size + 1) := okRow_bk HR2.out
          go_wp2
          refine bodyPost_ret (v := sv m ao' cap') ?_ rfl ?_
          · exact ret_state _ 2 _ Tryd.results22 (setRow_heap _ _ _ _ _ _ HR2.out) rfl rfl
          · refine HMM.out _ _ ⟨ao', cap', rfl, ?_, grown_of_below (below_setRow HRW.out (by omega) _)⟩
            rw [HSS2.out, HLN.out]
            exact owns_less (kept_row HRO.out (grown_setRow _ _ _) (by omega)) (by omega)
end Go.Proofs.YtbmkmmkebophpaaDoor
