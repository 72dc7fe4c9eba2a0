/- How near one box is to another one. Nothing is assumed beyond numbers of 32 bits. -/
import Derived.Test.YtmgopmcindlcmaaGd
import Derived.Deep.DeepCutAuto
namespace Go.Proofs.Ytmgopmcindlcmaa
open Go.RowKit
set_option linter.unusedVariables false
set_option maxRecDepth 20000

section
variable {w1 w2 : World}
theorem keep_cell (h : Below w1.heap.size w1 w2) : ∀ g i, g < w1.heap.size → w2.cell? ⟨g, i, none⟩ = w1.cell? ⟨g, i, none⟩ := fun g i hg => h.cell (p := ⟨g, i, none⟩) hg
theorem keep_frozen (h : Below w1.heap.size w1 w2) : ∀ g i, g < w1.heap.size → w2.frozen? ⟨g, i, none⟩ = w1.frozen? ⟨g, i, none⟩ := fun g i hg => h.frozen (p := ⟨g, i, none⟩) hg
theorem keep_lt (h : Below w1.heap.size w1 w2) : ∀ n, n < w1.heap.size → n < w2.heap.size := fun n hn => Nat.lt_of_lt_of_le hn h.size
theorem keep_ne (h : Below w1.heap.size w1 w2) : ∀ n, n < w1.heap.size → ¬ n = w2.heap.size := fun n hn => Nat.ne_of_lt (Nat.lt_of_lt_of_le hn h.size)
theorem keep_ne' (h : Below w1.heap.size w1 w2) : ∀ n, n < w1.heap.size → ¬ w2.heap.size = n := fun n hn e => Nat.ne_of_lt (Nat.lt_of_lt_of_le hn h.size) e.symm
end
theorem on_drewB {B : Nat} {w w' : World} (h : On B w w') : On B w w'.drew := Below.drew h
theorem far_cell {w : World} {g h i j : Nat} {v : Value} (hg : g ≠ h) : (w.setCell ⟨h, j, none⟩ v).cell? ⟨g, i, none⟩ = w.cell? ⟨g, i, none⟩ := World.cell?_of_block (w := w) (Below.heap_setCell w ⟨h, j, none⟩ v g hg)
theorem off_cell {w : World} {g i j : Nat} {v : Value} (hg : i ≠ j) : (w.setCell ⟨g, j, none⟩ v).cell? ⟨g, i, none⟩ = w.cell? ⟨g, i, none⟩ := World.cell?_setCell_other _ _ _ _ (by intro e; cases e; exact hg rfl)
theorem same_cell (w : World) (g i : Nat) (v : Value) : (w.setCell ⟨g, i, none⟩ v).cell? ⟨g, i, none⟩ = (w.cell? ⟨g, i, none⟩).map fun _ => v := by
  cases h : w.cell? ⟨g, i, none⟩ with
  | some u => rw [World.cell?_setCell_same _ _ _ h]; rfl
  | none =>
    revert h
    unfold World.cell? World.setCell
    simp [Array.getElem?_modify]
    cases w.heap[g]? with
    | none => simp
    | some o => cases o <;> simp
theorem max_if (x y : Int) : (if x < y then y else x) = max x y := by split <;> omega
theorem drew_size (w : World) : w.drew.heap.size = w.heap.size := rfl
theorem alloc_size (w : World) (o : Obj) : (w.alloc o).heap.size = w.heap.size + 1 := by simp
theorem on_size {B : Nat} {w w' : World} (h : On B w w') : w.heap.size ≤ w'.heap.size := Below.size h
/-- Two areas lie in blocks of the call's own. -/
def Two (w0 : World) (a b : Bx) (s5 s6 : Value) (wx : World) : Prop :=
  ∃ g h, s5 = .pointer (some ⟨g, 0, none⟩) ∧ s6 = .pointer (some ⟨h, 0, none⟩) ∧ g < wx.heap.size ∧ h < wx.heap.size ∧ Below w0.heap.size w0 wx ∧
    (wx.cell? ⟨g, 0, none⟩ = some (.int .i64 a.x) ∧ wx.cell? ⟨g, 1, none⟩ = some (.int .i64 (a.x + po a.u)) ∧ wx.cell? ⟨g, 2, none⟩ = some (.int .i64 a.y) ∧ wx.cell? ⟨g, 3, none⟩ = some (.int .i64 (a.y + po a.v))) ∧
    (wx.cell? ⟨h, 0, none⟩ = some (.int .i64 b.x) ∧ wx.cell? ⟨h, 1, none⟩ = some (.int .i64 (b.x + po b.u)) ∧ wx.cell? ⟨h, 2, none⟩ = some (.int .i64 b.y) ∧ wx.cell? ⟨h, 3, none⟩ = some (.int .i64 (b.y + po b.v)))

set_option maxHeartbeats 4000000 in
theorem near_c (a b : Bx) (w : World) (ha : a.ok) (hb : b.ok) :
    Calls Try.prog 18 #[.agg #[.int .i32 a.x, .int .i32 a.y, .int .i32 a.u, .int .i32 a.v], .agg #[.int .i32 b.x, .int .i32 b.y, .int .i32 b.u, .int .i32 b.v]] w fun e w' => e = .returned (.int .i32 (bo (max (gp a.x (a.x + po a.u) b.x (b.x + po b.u)) (gp a.y (a.y + po a.v) b.y (b.y + po b.v))))) ∧ Below w.heap.size w w' := by
  obtain ⟨HB, C0, C1⟩ := two_boxes w a b
  have HB := Lib.hid HB
  have C0 := Lib.hid C0
  have C1 := Lib.hid C1
  obtain ⟨ax, ay, au, av⟩ := ha
  obtain ⟨bx, by', bu, bv⟩ := hb
  go_enter Try.func18, Try.ntmps18
  go_upto_region 1 with fail
  go_cut [5, 6] (fun s5 s6 wx => Two w a b s5 s6 wx)
  case first =>
    generalize (w.alloc (.cells #[.int .i32 a.x, .int .i32 a.y, .int .i32 a.u, .int .i32 a.v] 23)).alloc (.cells #[.int .i32 b.x, .int .i32 b.y, .int .i32 b.u, .int .i32 b.v] 23) = wd at *
    have a0 := on_cell (B := wd.heap.size) C0.out C0.out.lt 0 rfl
    have a1 := on_cell (B := wd.heap.size) C0.out C0.out.lt 1 rfl
    have a2 := on_cell (B := wd.heap.size) C0.out C0.out.lt 2 rfl
    have a3 := on_cell (B := wd.heap.size) C0.out C0.out.lt 3 rfl
    have b0 := on_cell (B := wd.heap.size) C1.out C1.out.lt 0 rfl
    have b1 := on_cell (B := wd.heap.size) C1.out C1.out.lt 1 rfl
    have b2 := on_cell (B := wd.heap.size) C1.out C1.out.lt 2 rfl
    have b3 := on_cell (B := wd.heap.size) C1.out C1.out.lt 3 rfl
    have o0 := On.drew wd.heap.size wd
    have o00 := On.refl wd.heap.size wd
    go_region_held3 (fun w' => On wd.heap.size wd w') (first | with_reducible assumption | (repeat' (first | with_reducible assumption | with_reducible refine on_drewB ?_ | with_reducible refine on_alloc ?_ _ | with_reducible refine on_set ?_ ?_ _ | (dsimp only; omega)))) (first | (go_at_call 24; refine (areaOf _ _ _ _ _ (by assumption) (by assumption) (by assumption) (by assumption)).mono ?_; rintro E w4 ⟨rfl, hb4⟩; have o4 := on_step (wd := wd) (by assumption) hb4; have z4 := on_size o4; have q4 := keep_cell hb4; have f4 := keep_frozen hb4; have l4 := keep_lt hb4; have n4 := keep_ne hb4; have m4 := keep_ne' hb4; have s4 := Below.size hb4; try simp only [drew_size, alloc_size] at q4 f4 l4 n4 m4 s4; try have e4 : wd.heap.size < w4.heap.size := by omega; try have e4' : wd.heap.size + 1 < w4.heap.size := by omega))
    all_goals go_wp2_with fail
    all_goals go_meet
    all_goals refine ⟨_, _, rfl, rfl, ?_, ?_, on_below HB.out HB.out.size (by with_reducible assumption), ⟨?_, ?_, ?_, ?_⟩, ?_, ?_, ?_, ?_⟩
    all_goals first | (go_simp; done) | ((simp <;> omega); done) | (simp (disch := omega) only [far_cell, off_cell, same_cell]; go_simp; done)
  case rest =>
    obtain ⟨g, h, rfl, rfl, hg, hh, hbx, ⟨g0, g1, g2, g3⟩, h0, h1, h2, h3⟩ := hcut
    have HBX := Lib.hid hbx
    clear hbx HB C0 C1
    have keepc : ∀ p v, p.block < wc.heap.size → wc.cell? p = some v → ∀ w', On wc.heap.size wc w' → w'.cell? p = some v := fun p v hp hv w' o => by rw [Below.cell o hp, hv]
    have a0 := keepc _ _ hg g0
    have a1 := keepc _ _ hg g1
    have a2 := keepc _ _ hg g2
    have a3 := keepc _ _ hg g3
    have b0 := keepc _ _ hh h0
    have b1 := keepc _ _ hh h1
    have b2 := keepc _ _ hh h2
    have b3 := keepc _ _ hh h3
    clear g0 g1 g2 g3 h0 h1 h2 h3 keepc hg hh
    have o0 := On.drew wc.heap.size wc
    obtain ⟨i0, i1, i2, i3⟩ : in40 a.x ∧ in40 (a.x + po a.u) ∧ in40 a.y ∧ in40 (a.y + po a.v) := by
      obtain ⟨_, _⟩ := ax
      obtain ⟨_, _⟩ := ay
      obtain ⟨_, _⟩ := au
      obtain ⟨_, _⟩ := av
      unfold in40 po
      omega
    obtain ⟨m0, m1, m2, m3⟩ : in40 b.x ∧ in40 (b.x + po b.u) ∧ in40 b.y ∧ in40 (b.y + po b.v) := by
      obtain ⟨_, _⟩ := bx
      obtain ⟨_, _⟩ := by'
      obtain ⟨_, _⟩ := bu
      obtain ⟨_, _⟩ := bv
      unfold in40 po
      omega
    go_wp2_with fail
    go_region_held3 (fun w' => On wc.heap.size wc w') (first | assumption) (first | (go_at_call 34; refine (ivGap _ _ _ _ _ (by assumption) (by assumption) (by assumption) (by assumption)).mono ?_; rintro E w4 ⟨rfl, hb4⟩; have o4 := on_step (wd := wc) (by assumption) hb4) | (go_at_call 30; simp only [max_if]; refine (bound _ _).mono ?_; rintro E w4 ⟨rfl, rfl⟩))
    go_wp2
    go_ret
    exact ⟨rfl, HBX.out.trans (o4.mono HBX.out.size)⟩
end Go.Proofs.Ytmgopmcindlcmaa
