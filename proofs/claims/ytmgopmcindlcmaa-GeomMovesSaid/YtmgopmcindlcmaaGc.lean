/- Areas: one contract each. Nothing is assumed beyond each contract's own bounds. -/
import Derived.Test.YtmgopmcindlcmaaGb
namespace Go.Proofs.Ytmgopmcindlcmaa
open Go.RowKit
set_option linter.unusedVariables false
set_option maxRecDepth 20000

/-- Below block B the world is as wd was. -/
def On (B : Nat) (wd w' : World) : Prop := Below B wd w'
section
variable {B : Nat} {w wd w1 w2 w' : World} {g : Nat} {t : TypeId} {cs : Array Value}
theorem On.refl (B : Nat) (w : World) : On B w w := Below.refl _ _
theorem On.drew (B : Nat) (w : World) : On B w w.drew := (Below.refl _ w).drew
theorem on_weak (h : On wd.heap.size wd w') (hB : B ≤ wd.heap.size) : On B wd w' := Below.mono h hB
theorem on_step (h : On wd.heap.size wd w1) (hb : Below w1.heap.size w1 w2) : On wd.heap.size wd w2 := Below.trans h (hb.mono h.size)
theorem on_step' (h : On B wd w1) (hB : B ≤ wd.heap.size) (hb : Below w1.heap.size w1 w2) : On B wd w2 := Below.trans h (hb.mono (Nat.le_trans hB h.size))
theorem on_set (h : On B wd w1) {p : Addr} (hp : B ≤ p.block) (u : Value) : On B wd (w1.setCell p u) := Below.setCell h hp u
theorem on_below (h : Below w.heap.size w wd) (hB : w.heap.size ≤ B) (o : On B wd w') : Below w.heap.size w w' := h.trans (Below.mono o hB)
theorem on_cell (h : Cells wd g t cs) (hg : g < B) (i : Nat) {v : Value} (hv : cs[i]? = some v) : ∀ w', On B wd w' → w'.cell? ⟨g, i, none⟩ = some v := fun _ o => cellAt (h.below o hg) i hv
theorem on_cells (h : Cells wd g t cs) : ∀ w', On wd.heap.size wd w' → Cells w' g t cs := fun _ o => h.below o h.lt
end
/-- What a store of four cells, one behind the other, meets in each world, and leaves. -/
theorem on_store4 {wd : World} {g : Nat} {t : TypeId} {z0 z1 z2 z3 : Value} (h : Cells wd g t #[z0, z1, z2, z3]) (v0 v1 v2 v3 : Value) :
    (∀ w', On wd.heap.size wd w' → w'.frozen? ⟨g, 0, none⟩ = false) ∧ (∀ w', On wd.heap.size wd w' → w'.cell? ⟨g, 0, none⟩ = some z0) ∧
    (∀ w', On wd.heap.size wd w' → (w'.setCell ⟨g, 0, none⟩ v0).frozen? ⟨g, 1, none⟩ = false) ∧ (∀ w', On wd.heap.size wd w' → (w'.setCell ⟨g, 0, none⟩ v0).cell? ⟨g, 1, none⟩ = some z1) ∧
    (∀ w', On wd.heap.size wd w' → ((w'.setCell ⟨g, 0, none⟩ v0).setCell ⟨g, 1, none⟩ v1).frozen? ⟨g, 2, none⟩ = false) ∧ (∀ w', On wd.heap.size wd w' → ((w'.setCell ⟨g, 0, none⟩ v0).setCell ⟨g, 1, none⟩ v1).cell? ⟨g, 2, none⟩ = some z2) ∧
    (∀ w', On wd.heap.size wd w' → (((w'.setCell ⟨g, 0, none⟩ v0).setCell ⟨g, 1, none⟩ v1).setCell ⟨g, 2, none⟩ v2).frozen? ⟨g, 3, none⟩ = false) ∧ (∀ w', On wd.heap.size wd w' → (((w'.setCell ⟨g, 0, none⟩ v0).setCell ⟨g, 1, none⟩ v1).setCell ⟨g, 2, none⟩ v2).cell? ⟨g, 3, none⟩ = some z3) ∧
    (∀ w', On wd.heap.size wd w' → Cells ((((w'.setCell ⟨g, 0, none⟩ v0).setCell ⟨g, 1, none⟩ v1).setCell ⟨g, 2, none⟩ v2).setCell ⟨g, 3, none⟩ v3) g t #[v0, v1, v2, v3]) := by
  have H := on_cells h
  refine ⟨fun w' o => (H w' o).frozen 0, fun w' o => cellAt (H w' o) 0 rfl, fun w' o => ((H w' o).set 0 v0).frozen 1, fun w' o => cellAt ((H w' o).set 0 v0) 1 rfl, fun w' o => (((H w' o).set 0 v0).set 1 v1).frozen 2, fun w' o => cellAt (((H w' o).set 0 v0).set 1 v1) 2 rfl, fun w' o => ((((H w' o).set 0 v0).set 1 v1).set 2 v2).frozen 3, fun w' o => cellAt ((((H w' o).set 0 v0).set 1 v1).set 2 v2) 3 rfl, fun w' o => ?_⟩
  exact ((((H w' o).set 0 v0).set 1 v1).set 2 v2).set 3 v3
theorem areaOf (x y u v : Int) (w : World) (hx : in32 x) (hy : in32 y) (hu : in32 u) (hv : in32 v) :
    Calls Try.prog 24 #[.agg #[.int .i32 x, .int .i32 y, .int .i32 u, .int .i32 v]] w fun e w' => e = .returned (.agg #[.int .i64 x, .int .i64 (x + po u), .int .i64 y, .int .i64 (y + po v)]) ∧ Below w.heap.size w w' := by
  have hmf : ∀ (fn : Fn) (first cap : Array Value) (w : World), (Instr.makeFunc fn first cap).run Try.prog w = .ok (.func fn first cap) w := fun _ _ _ _ => rfl
  have A0 := Lib.hid (fun W => along0 x y u v W hx hu)
  have A1 := Lib.hid (fun W => along1 x y u v W hy hv)
  have HB := Lib.hid (show Below w.heap.size w ((w.alloc (.cells #[.int .i32 x, .int .i32 y, .int .i32 u, .int .i32 v] 23)).alloc (.cells #[.int .i64 0, .int .i64 0, .int .i64 0, .int .i64 0] 42)) by go_grown)
  have C1 := Lib.hid (show Cells ((w.alloc (.cells #[.int .i32 x, .int .i32 y, .int .i32 u, .int .i32 v] 23)).alloc (.cells #[.int .i64 0, .int .i64 0, .int .i64 0, .int .i64 0] 42)) (w.heap.size + 1) 42 #[.int .i64 0, .int .i64 0, .int .i64 0, .int .i64 0] by simpa using Cells.made (w.alloc (.cells #[.int .i32 x, .int .i32 y, .int .i32 u, .int .i32 v] 23)) 42 #[.int .i64 0, .int .i64 0, .int .i64 0, .int .i64 0])
  generalize po u = p at *
  generalize po v = q at *
  go_enter Try.func24, Try.ntmps24
  go_wp2_with fail
  refine (A0.out _).mono ?_
  rintro E w1 ⟨rfl, hb1⟩
  have C1w := Lib.hid (C1.out.below hb1 (by simp))
  have HB1 := Lib.hid (HB.out.trans (hb1.mono (by simp; omega)))
  clear hb1
  go_wp2_with fail
  refine (A1.out _).mono ?_
  rintro E w2 ⟨rfl, hb2⟩
  have HB2 := Lib.hid (HB1.out.trans (hb2.mono HB1.out.size))
  have c0 := C1w.out.below hb2 C1w.out.lt
  clear hb2
  have z0 := c0.frozen 0
  have k0 := cellAt c0 0 rfl
  have c1 := c0.set 0 (.int .i64 x)
  have z1 := c1.frozen 1
  have k1 := cellAt c1 1 rfl
  have c2 := c1.set 1 (.int .i64 (x + p))
  have z2 := c2.frozen 2
  have k2 := cellAt c2 2 rfl
  have c3 := c2.set 2 (.int .i64 y)
  have z3 := c3.frozen 3
  have k3 := cellAt c3 3 rfl
  have c4 := c3.set 3 (.int .i64 (y + q))
  have j0 := cellAt c4 0 rfl
  have j1 := cellAt c4 1 rfl
  have j2 := cellAt c4 2 rfl
  have j3 := cellAt c4 3 rfl
  clear c0 c1 c2 c3 c4
  go_wp2
  refine bodyPost_ret (v := .agg #[.int .i64 x, .int .i64 (x + p), .int .i64 y, .int .i64 (y + q)]) (by simp [results, Try.results24, go_sem, j0, j1, j2, j3]) rfl ?_
  exact ⟨rfl, (((HB2.out.setCell (by show _ ≤ w.heap.size + 1; omega) _).setCell (by show _ ≤ w.heap.size + 1; omega) _).setCell (by show _ ≤ w.heap.size + 1; omega) _).setCell (by show _ ≤ w.heap.size + 1; omega) _⟩
theorem arEmpty (a b c d : Int) (w : World) :
    Calls Try.prog 26 #[.agg #[.int .i64 a, .int .i64 b, .int .i64 c, .int .i64 d]] w fun e w' => e = .returned (.bool (a == b || c == d)) ∧ Below w.heap.size w w' := by
  have HB := Lib.hid (show Below w.heap.size w (w.alloc (.cells #[.int .i64 a, .int .i64 b, .int .i64 c, .int .i64 d] 42)) by go_grown)
  have C := Lib.hid (Cells.made w 42 #[.int .i64 a, .int .i64 b, .int .i64 c, .int .i64 d])
  have E0 := Lib.hid (fun W => ivEmpty a b W)
  have E1 := Lib.hid (fun W => ivEmpty c d W)
  cases h : (a == b)
  · go_enter Try.func26, Try.ntmps26
    go_wp2_with fail
    refine (E0.out _).mono ?_
    rintro E w1 ⟨rfl, hb1⟩
    rw [h]
    have HB1 := Lib.hid (HB.out.trans (hb1.mono (by simp)))
    have c1 := C.out.below hb1 (by simp)
    clear hb1
    have k2 := cellAt c1 2 rfl
    have k3 := cellAt c1 3 rfl
    clear c1
    go_wp2_with fail
    refine (E1.out _).mono ?_
    rintro E w2 ⟨rfl, hb2⟩
    have HB2 := Lib.hid (HB1.out.trans (hb2.mono HB1.out.size))
    clear hb2
    go_wp2
    go_ret
    exact ⟨ret_bool (by simp), HB2.out⟩
  · go_enter Try.func26, Try.ntmps26
    go_wp2_with fail
    refine (E0.out _).mono ?_
    rintro E w1 ⟨rfl, hb1⟩
    rw [h]
    have HB1 := Lib.hid (HB.out.trans (hb1.mono (by simp)))
    clear hb1
    go_wp2
    go_ret
    exact ⟨ret_bool (by simp), HB1.out⟩
theorem arClip (a b c d a' b' c' d' : Int) (w : World) :
    Calls Try.prog 25 #[.agg #[.int .i64 a, .int .i64 b, .int .i64 c, .int .i64 d], .agg #[.int .i64 a', .int .i64 b', .int .i64 c', .int .i64 d']] w fun e w' => e = .returned (.agg #[.int .i64 (cl a a' b'), .int .i64 (cl b a' b'), .int .i64 (cl c c' d'), .int .i64 (cl d c' d')]) ∧ Below w.heap.size w w' := by
  have HB := Lib.hid (show Below w.heap.size w (((w.alloc (.cells #[.int .i64 a, .int .i64 b, .int .i64 c, .int .i64 d] 42)).alloc (.cells #[.int .i64 a', .int .i64 b', .int .i64 c', .int .i64 d'] 42)).alloc (.cells #[.int .i64 0, .int .i64 0, .int .i64 0, .int .i64 0] 42)) by go_grown)
  have C0 := Lib.hid (((Cells.made w 42 #[.int .i64 a, .int .i64 b, .int .i64 c, .int .i64 d]).alloc (.cells #[.int .i64 a', .int .i64 b', .int .i64 c', .int .i64 d'] 42)).alloc (.cells #[.int .i64 0, .int .i64 0, .int .i64 0, .int .i64 0] 42))
  have C1 := Lib.hid (show Cells (((w.alloc (.cells #[.int .i64 a, .int .i64 b, .int .i64 c, .int .i64 d] 42)).alloc (.cells #[.int .i64 a', .int .i64 b', .int .i64 c', .int .i64 d'] 42)).alloc (.cells #[.int .i64 0, .int .i64 0, .int .i64 0, .int .i64 0] 42)) (w.heap.size + 1) 42 #[.int .i64 a', .int .i64 b', .int .i64 c', .int .i64 d'] by simpa using (Cells.made (w.alloc (.cells #[.int .i64 a, .int .i64 b, .int .i64 c, .int .i64 d] 42)) 42 #[.int .i64 a', .int .i64 b', .int .i64 c', .int .i64 d']).alloc (.cells #[.int .i64 0, .int .i64 0, .int .i64 0, .int .i64 0] 42))
  have C2 := Lib.hid (show Cells (((w.alloc (.cells #[.int .i64 a, .int .i64 b, .int .i64 c, .int .i64 d] 42)).alloc (.cells #[.int .i64 a', .int .i64 b', .int .i64 c', .int .i64 d'] 42)).alloc (.cells #[.int .i64 0, .int .i64 0, .int .i64 0, .int .i64 0] 42)) (w.heap.size + 1 + 1) 42 #[.int .i64 0, .int .i64 0, .int .i64 0, .int .i64 0] by simpa using Cells.made ((w.alloc (.cells #[.int .i64 a, .int .i64 b, .int .i64 c, .int .i64 d] 42)).alloc (.cells #[.int .i64 a', .int .i64 b', .int .i64 c', .int .i64 d'] 42)) 42 #[.int .i64 0, .int .i64 0, .int .i64 0, .int .i64 0])
  go_enter Try.func25, Try.ntmps25
  go_wp2
  generalize ((w.alloc (.cells #[.int .i64 a, .int .i64 b, .int .i64 c, .int .i64 d] 42)).alloc (.cells #[.int .i64 a', .int .i64 b', .int .i64 c', .int .i64 d'] 42)).alloc (.cells #[.int .i64 0, .int .i64 0, .int .i64 0, .int .i64 0] 42) = wd at *
  have hlt : w.heap.size + 1 + 1 < wd.heap.size := C2.out.lt
  have a0 := on_cell (B := w.heap.size + 1 + 1) C0.out (by omega) 0 rfl
  have a1 := on_cell (B := w.heap.size + 1 + 1) C0.out (by omega) 1 rfl
  have a2 := on_cell (B := w.heap.size + 1 + 1) C0.out (by omega) 2 rfl
  have a3 := on_cell (B := w.heap.size + 1 + 1) C0.out (by omega) 3 rfl
  have b0 := on_cell (B := w.heap.size + 1 + 1) C1.out (by omega) 0 rfl
  have b1 := on_cell (B := w.heap.size + 1 + 1) C1.out (by omega) 1 rfl
  have b2 := on_cell (B := w.heap.size + 1 + 1) C1.out (by omega) 2 rfl
  have b3 := on_cell (B := w.heap.size + 1 + 1) C1.out (by omega) 3 rfl
  have HL := Lib.hid (Nat.le_of_lt hlt)
  clear hlt
  obtain ⟨z0, k0, z1, k1, z2, k2, z3, k3, CJ⟩ := on_store4 C2.out (.int .i64 (cl a a' b')) (.int .i64 (cl b a' b')) (.int .i64 (cl c c' d')) (.int .i64 (cl d c' d'))
  have CJ := Lib.hid CJ
  have o0 := On.drew wd.heap.size wd
  have p0 := On.drew (w.heap.size + 1 + 1) wd
  go_region_held3 (fun w' => On (w.heap.size + 1 + 1) wd w') (first | assumption | exact on_set (on_set (on_set (on_set p4 (Nat.le_refl _) _) (Nat.le_refl _) _) (Nat.le_refl _) _) (Nat.le_refl _) _) (first | (go_at_call 37; refine (ivClip _ _ _ _ _).mono ?_; rintro E w4 ⟨rfl, hb4⟩; have o4 := on_step (wd := wd) (by assumption) hb4; have p4 := on_weak o4 HL.out))
  have c4 := CJ.out _ o4
  have j0 := cellAt c4 0 rfl
  have j1 := cellAt c4 1 rfl
  have j2 := cellAt c4 2 rfl
  have j3 := cellAt c4 3 rfl
  clear c4 z0 k0 z1 k1 z2 k2 z3 k3
  go_wp2
  refine bodyPost_ret (v := .agg #[.int .i64 (cl a a' b'), .int .i64 (cl b a' b'), .int .i64 (cl c c' d'), .int .i64 (cl d c' d')]) (by simp [results, Try.results25, go_sem, j0, j1, j2, j3]) rfl ?_
  exact ⟨rfl, on_below HB.out (by omega) (on_set (on_set (on_set (on_set p4 (Nat.le_refl _) _) (Nat.le_refl _) _) (Nat.le_refl _) _) (Nat.le_refl _) _)⟩
end Go.Proofs.Ytmgopmcindlcmaa
