/- Whether a player, a shot, a state may be: the document's functions, and Check: one contract each. -/
import Derived.Test.YtbmkmmkebophpaaDoorSd
namespace Go.Proofs.YtbmkmmkebophpaaDoor
open Go.RowKit
set_option linter.unusedVariables false

def inb (n a b : Int) : Bool := decide (a ≤ n ∧ n ≤ b)
theorem in_c (n a b : Int) (w : World) : Calls Tryd.prog 56 #[.int .i32 n, .int .i32 a, .int .i32 b] w fun E w' => E = .returned (.bool (inb n a b)) ∧ w = w' := by
  by_cases h1 : a ≤ n
  · by_cases h2 : n ≤ b
    · rw [show inb n a b = true from decide_eq_true ⟨h1, h2⟩]
      go_enter Tryd.func56, Tryd.ntmps56
      go_wp2; go_ret; exact ⟨rfl, rfl⟩
    · rw [show inb n a b = false from decide_eq_false (by omega)]
      go_enter Tryd.func56, Tryd.ntmps56
      go_wp2; go_ret; exact ⟨rfl, rfl⟩
  · rw [show inb n a b = false from decide_eq_false (by omega)]
    go_enter Tryd.func56, Tryd.ntmps56
    go_wp2; go_ret; exact ⟨rfl, rfl⟩
theorem goodPlayer (p : Pl) : p.good = (inb p.x 0 61440 && (inb p.y 0 28672 && (inb p.vx (-1024) 1024 && (inb p.vy (-1024) 1024 && (inb (p.h : Int) 1 100 && (inb (p.c : Int) 0 30 && (inb (p.f : Int) 0 3 && true))))))) := rfl
set_option maxRecDepth 20000 in
theorem refPlayer (p : Pl) (w : World) :
    Calls Tryd.prog 29 #[pv p] w fun E w' => E = .returned (.bool p.good) ∧ w.grownBy w' none := by
  rw [goodPlayer]
  unfold pv
  have C0 : Hid (∀ w : World, Calls Tryd.prog 56 #[.int .i32 p.x, .int .i32 0, .int .i32 61440] w fun E w' => E = .returned (.bool (inb p.x 0 61440)) ∧ w = w') := fun w => in_c _ _ _ w
  have C1 : Hid (∀ w : World, Calls Tryd.prog 56 #[.int .i32 p.y, .int .i32 0, .int .i32 28672] w fun E w' => E = .returned (.bool (inb p.y 0 28672)) ∧ w = w') := fun w => in_c _ _ _ w
  have C2 : Hid (∀ w : World, Calls Tryd.prog 56 #[.int .i32 p.vx, .int .i32 (-1024), .int .i32 1024] w fun E w' => E = .returned (.bool (inb p.vx (-1024) 1024)) ∧ w = w') := fun w => in_c _ _ _ w
  have C3 : Hid (∀ w : World, Calls Tryd.prog 56 #[.int .i32 p.vy, .int .i32 (-1024), .int .i32 1024] w fun E w' => E = .returned (.bool (inb p.vy (-1024) 1024)) ∧ w = w') := fun w => in_c _ _ _ w
  generalize inb p.x 0 61440 = b0 at *
  generalize inb p.y 0 28672 = b1 at *
  generalize inb p.vx (-1024) 1024 = b2 at *
  generalize inb p.vy (-1024) 1024 = b3 at *
  have Eh : Hid (∀ q, (decide (1 ≤ (p.h : Int) ∧ (p.h : Int) ≤ 100) = q → inb (p.h : Int) 1 100 = q)) := fun q h => h
  have Ec : Hid (∀ q, (decide (0 ≤ (p.c : Int) ∧ (p.c : Int) ≤ 30) = q → inb (p.c : Int) 0 30 = q)) := fun q h => h
  have Ef : Hid (∀ q, (decide (0 ≤ (p.f : Int) ∧ (p.f : Int) ≤ 3) = q → inb (p.f : Int) 0 3 = q)) := fun q h => h
  generalize inb (p.h : Int) 1 100 = gh at *
  generalize inb (p.c : Int) 0 30 = gc at *
  generalize inb (p.f : Int) 0 3 = gf at *
  go_enter Tryd.func29, Tryd.ntmps29
  go_wp2_with fail
  refine (C0.out _).mono ?_
  rintro E w1 ⟨rfl, rfl⟩
  cases b0
  · go_wp2; go_ret; exact ⟨by first | (simp; done) | (simp; omega), grown_alloc _ _⟩
  go_wp2_with fail
  refine (C1.out _).mono ?_
  rintro E w1 ⟨rfl, rfl⟩
  cases b1
  · go_wp2; go_ret; exact ⟨by first | (simp; done) | (simp; omega), grown_alloc _ _⟩
  go_wp2_with fail
  refine (C2.out _).mono ?_
  rintro E w1 ⟨rfl, rfl⟩
  cases b2
  · go_wp2; go_ret; exact ⟨by first | (simp; done) | (simp; omega), grown_alloc _ _⟩
  go_wp2_with fail
  refine (C3.out _).mono ?_
  rintro E w1 ⟨rfl, rfl⟩
  cases b3
  · go_wp2; go_ret; exact ⟨by first | (simp; done) | (simp; omega), grown_alloc _ _⟩
  by_cases h1 : (1 : Int) ≤ (p.h : Int)
  rotate_left
  · have e := Eh.out false (decide_eq_false (by omega))
    subst e
    go_wp2; go_ret; exact ⟨by first | (simp; done) | (simp; omega), grown_alloc _ _⟩
  by_cases h2 : (p.h : Int) ≤ 100
  rotate_left
  · have e := Eh.out false (decide_eq_false (by omega))
    subst e
    go_wp2; go_ret; exact ⟨by first | (simp; done) | (simp; omega), grown_alloc _ _⟩
  by_cases h3 : (p.c : Int) ≤ 30
  rotate_left
  · have e := Ec.out false (decide_eq_false (by omega))
    subst e
    go_wp2; go_ret; exact ⟨by first | (simp; done) | (simp; omega), grown_alloc _ _⟩
  by_cases h4 : (p.f : Int) ≤ 3
  rotate_left
  · have e := Ef.out false (decide_eq_false (by omega))
    subst e
    go_wp2; go_ret; exact ⟨by first | (simp; done) | (simp; omega), grown_alloc _ _⟩
  have eh := Eh.out true (decide_eq_true (by omega))
  subst eh
  have ec := Ec.out true (decide_eq_true (by omega))
  subst ec
  have ef := Ef.out true (decide_eq_true (by omega))
  subst ef
  go_wp2; go_ret; exact ⟨by first | (simp; done) | (simp; omega), grown_alloc _ _⟩
theorem goodShot (p : Sh) : p.good = (inb p.x 0 65024 && (inb p.y 0 32256 && (inb p.vx (-2048) 2048 && (inb p.vy (-2048) 2048 && (inb (p.o : Int) 0 1 && (inb (p.l : Int) 1 40 && true)))))) := rfl
set_option maxRecDepth 20000 in
theorem refShot (p : Sh) (w : World) :
    Calls Tryd.prog 30 #[hv p] w fun E w' => E = .returned (.bool p.good) ∧ w.grownBy w' none := by
  rw [goodShot]
  unfold hv
  have C0 : Hid (∀ w : World, Calls Tryd.prog 56 #[.int .i32 p.x, .int .i32 0, .int .i32 65024] w fun E w' => E = .returned (.bool (inb p.x 0 65024)) ∧ w = w') := fun w => in_c _ _ _ w
  have C1 : Hid (∀ w : World, Calls Tryd.prog 56 #[.int .i32 p.y, .int .i32 0, .int .i32 32256] w fun E w' => E = .returned (.bool (inb p.y 0 32256)) ∧ w = w') := fun w => in_c _ _ _ w
  have C2 : Hid (∀ w : World, Calls Tryd.prog 56 #[.int .i32 p.vx, .int .i32 (-2048), .int .i32 2048] w fun E w' => E = .returned (.bool (inb p.vx (-2048) 2048)) ∧ w = w') := fun w => in_c _ _ _ w
  have C3 : Hid (∀ w : World, Calls Tryd.prog 56 #[.int .i32 p.vy, .int .i32 (-2048), .int .i32 2048] w fun E w' => E = .returned (.bool (inb p.vy (-2048) 2048)) ∧ w = w') := fun w => in_c _ _ _ w
  generalize inb p.x 0 65024 = b0 at *
  generalize inb p.y 0 32256 = b1 at *
  generalize inb p.vx (-2048) 2048 = b2 at *
  generalize inb p.vy (-2048) 2048 = b3 at *
  have Eo : Hid (∀ q, (decide (0 ≤ (p.o : Int) ∧ (p.o : Int) ≤ 1) = q → inb (p.o : Int) 0 1 = q)) := fun q h => h
  have El : Hid (∀ q, (decide (1 ≤ (p.l : Int) ∧ (p.l : Int) ≤ 40) = q → inb (p.l : Int) 1 40 = q)) := fun q h => h
  generalize inb (p.o : Int) 0 1 = go at *
  generalize inb (p.l : Int) 1 40 = gl at *
  go_enter Tryd.func30, Tryd.ntmps30
  go_wp2_with fail
  refine (C0.out _).mono ?_
  rintro E w1 ⟨rfl, rfl⟩
  cases b0
  · go_wp2; go_ret; exact ⟨by first | (simp; done) | (simp; omega), grown_alloc _ _⟩
  go_wp2_with fail
  refine (C1.out _).mono ?_
  rintro E w1 ⟨rfl, rfl⟩
  cases b1
  · go_wp2; go_ret; exact ⟨by first | (simp; done) | (simp; omega), grown_alloc _ _⟩
  go_wp2_with fail
  refine (C2.out _).mono ?_
  rintro E w1 ⟨rfl, rfl⟩
  cases b2
  · go_wp2; go_ret; exact ⟨by first | (simp; done) | (simp; omega), grown_alloc _ _⟩
  go_wp2_with fail
  refine (C3.out _).mono ?_
  rintro E w1 ⟨rfl, rfl⟩
  cases b3
  · go_wp2; go_ret; exact ⟨by first | (simp; done) | (simp; omega), grown_alloc _ _⟩
  by_cases h1 : (p.o : Int) ≤ 1
  rotate_left
  · have e := Eo.out false (decide_eq_false (by omega))
    subst e
    go_wp2; go_ret; exact ⟨by first | (simp; done) | (simp; omega), grown_alloc _ _⟩
  by_cases h2 : (1 : Int) ≤ (p.l : Int)
  rotate_left
  · have e := El.out false (decide_eq_false (by omega))
    subst e
    go_wp2; go_ret; exact ⟨by first | (simp; done) | (simp; omega), grown_alloc _ _⟩
  by_cases h3 : (p.l : Int) ≤ 40
  rotate_left
  · have e := El.out false (decide_eq_false (by omega))
    subst e
    go_wp2; go_ret; exact ⟨by first | (simp; done) | (simp; omega), grown_alloc _ _⟩
  have eo := Eo.out true (decide_eq_true (by omega))
  subst eo
  have el := El.out true (decide_eq_true (by omega))
  subst el
  go_wp2; go_ret; exact ⟨by first | (simp; done) | (simp; omega), grown_alloc _ _⟩
/-- A state as its cells. -/
abbrev stc (s : St) (ao : Option Addr) (cap : Nat) : Array Value :=
  #[.int .u64 (s.fr : Int), .int .u64 (s.sd : Int), .int .i32 s.p.x, .int .i32 s.p.y, .int .i32 s.p.vx, .int .i32 s.p.vy, .int .u8 (s.p.h : Int), .int .u8 (s.p.c : Int), .int .u8 (s.p.f : Int),
    .int .i32 s.q.x, .int .i32 s.q.y, .int .i32 s.q.vx, .int .i32 s.q.vy, .int .u8 (s.q.h : Int), .int .u8 (s.q.c : Int), .int .u8 (s.q.f : Int), .slice ao s.ss.length cap, .int .u16 (s.s0 : Int), .int .u16 (s.s1 : Int)]
abbrev sv (s : St) (ao : Option Addr) (cap : Nat) : Value := .agg (stc s ao cap)
/-- A state's block. -/
def Bk (w : World) (g : Nat) (s : St) (ao : Option Addr) (cap : Nat) : Prop := Cells w g 30 (stc s ao cap)
theorem Bk.of {w : World} {g : Nat} {s : St} {ao : Option Addr} {cap : Nat} (h : Bk w g s ao cap) (i : Nat) (v : Value) (hv : (stc s ao cap)[i]? = some v) : w.cell? ⟨g, i, none⟩ = some v := by rw [Cells.cell h, hv]
theorem bk_made (w : World) (s : St) (ao : Option Addr) (cap : Nat) : Bk (w.alloc (.cells (stc s ao cap) 30)) w.heap.size s ao cap := Cells.made w _ _
theorem bk_grown {w w' : World} {g : Nat} {s : St} {ao : Option Addr} {cap : Nat} {r : Option Nat} (h : Bk w g s ao cap) (hb : w.grownBy w' r) (hr : some g ≠ r) : Bk w' g s ao cap := Cells.grown h hb hr
theorem bk_cells {w : World} {g : Nat} {s : St} {ao : Option Addr} {cap : Nat} (h : Bk w g s ao cap) :
    w.cell? ⟨g, 0, none⟩ = some (.int .u64 (s.fr : Int)) ∧ w.cell? ⟨g, 1, none⟩ = some (.int .u64 (s.sd : Int)) ∧
    (w.cell? ⟨g, 2, none⟩ = some (.int .i32 s.p.x) ∧ w.cell? ⟨g, 3, none⟩ = some (.int .i32 s.p.y) ∧ w.cell? ⟨g, 4, none⟩ = some (.int .i32 s.p.vx) ∧ w.cell? ⟨g, 5, none⟩ = some (.int .i32 s.p.vy) ∧
      w.cell? ⟨g, 6, none⟩ = some (.int .u8 (s.p.h : Int)) ∧ w.cell? ⟨g, 7, none⟩ = some (.int .u8 (s.p.c : Int)) ∧ w.cell? ⟨g, 8, none⟩ = some (.int .u8 (s.p.f : Int))) ∧
    (w.cell? ⟨g, 9, none⟩ = some (.int .i32 s.q.x) ∧ w.cell? ⟨g, 10, none⟩ = some (.int .i32 s.q.y) ∧ w.cell? ⟨g, 11, none⟩ = some (.int .i32 s.q.vx) ∧ w.cell? ⟨g, 12, none⟩ = some (.int .i32 s.q.vy) ∧
      w.cell? ⟨g, 13, none⟩ = some (.int .u8 (s.q.h : Int)) ∧ w.cell? ⟨g, 14, none⟩ = some (.int .u8 (s.q.c : Int)) ∧ w.cell? ⟨g, 15, none⟩ = some (.int .u8 (s.q.f : Int))) ∧
    w.cell? ⟨g, 16, none⟩ = some (.slice ao s.ss.length cap) ∧ w.cell? ⟨g, 17, none⟩ = some (.int .u16 (s.s0 : Int)) ∧ w.cell? ⟨g, 18, none⟩ = some (.int .u16 (s.s1 : Int)) :=
  ⟨h.of 0 _ rfl, h.of 1 _ rfl, ⟨h.of 2 _ rfl, h.of 3 _ rfl, h.of 4 _ rfl, h.of 5 _ rfl, h.of 6 _ rfl, h.of 7 _ rfl, h.of 8 _ rfl⟩,
    ⟨h.of 9 _ rfl, h.of 10 _ rfl, h.of 11 _ rfl, h.of 12 _ rfl, h.of 13 _ rfl, h.of 14 _ rfl, h.of 15 _ rfl⟩, h.of 16 _ rfl, h.of 17 _ rfl, h.of 18 _ rfl⟩
theorem pls_of {w : World} {g : Nat} {s : St} {ao : Option Addr} {cap : Nat} (h : Bk w g s ao cap) (hp : s.p.fit) (hq : s.q.fit) : Pls w (some ⟨g, 2, none⟩) [s.p, s.q] := fun k hk => by
  have hk2 : k = 0 ∨ k = 1 := by simp at hk; omega
  rcases hk2 with rfl | rfl
  · refine ⟨hp, g, 2, rfl, fun i v hv => h.of (2 + 0 * 7 + i) v ?_⟩
    match i, hv with
    | 0, hv | 1, hv | 2, hv | 3, hv | 4, hv | 5, hv | 6, hv => exact hv
    | i + 7, hv => simp at hv
  · refine ⟨hq, g, 2, rfl, fun i v hv => h.of (2 + 1 * 7 + i) v ?_⟩
    match i, hv with
    | 0, hv | 1, hv | 2, hv | 3, hv | 4, hv | 5, hv | 6, hv => exact hv
    | i + 7, hv => simp at hv
theorem good_st (s : St) : s.good = (decide (s.ss.length ≤ 8) && [s.p, s.q].all Pl.good && s.ss.all Sh.good) := by
  simp [St.good]
/-- What Check answers. -/
def chk (s : St) : Int := if s.good then 0 else 4
theorem chk_few {s : St} (h : 8 < s.ss.length) : chk s = 4 := by
  unfold chk; rw [good_st, decide_eq_false (by omega)]; rfl
theorem chk_of {s : St} (h : s.ss.length ≤ 8) : chk s = if ([s.p, s.q].all Pl.good && s.ss.all Sh.good) = true then 0 else 4 := by
  unfold chk; rw [good_st, decide_eq_true h]; simp
set_option maxHeartbeats 1000000 in
set_option maxRecDepth 20000 in
theorem check_c (s : St) (ao : Option Addr) (cap : Nat) (w : World) (h : Shs w ao s.ss) (hf : s.fit) (ht : Tab w) :
    Calls Tryd.prog 11 #[sv s ao cap] w fun E w' => E = .returned (.int .i64 (chk s)) ∧ w.grownBy w' none := by
  by_cases h8 : 8 < s.ss.length
  · rw [chk_few h8]
    go_enter Tryd.func11, Tryd.ntmps11
    go_wp2
    go_ret
    exact ⟨rfl, grown_alloc _ _⟩
  · have hB := bk_made w s ao cap
    obtain ⟨_, _, hp, hq, _⟩ := hf
    have hP := pls_of hB hp hq
    have hT : Tab (w.alloc (.cells (stc s ao cap) 30)) := tab_grown ht (grown_alloc _ _) (by simp)
    have C0 := Lib.hid (withinPl (some ⟨w.heap.size, 2, none⟩) 2 [s.p, s.q] _ hP (by simp) hT)
    have HS := Lib.hid (Shs_grown h (grown_alloc w (.cells (stc s ao cap) 30)) (by simp))
    have HB := Lib.hid hB
    have HT := Lib.hid hT
    have HL := Lib.hid (show s.ss.length ≤ 100000 by omega)
    rw [chk_of (by omega)]
    clear hP hT hB ht h hp hq
    have C1 : Hid (∀ W : World, Shs W ao s.ss → Tab W → Calls Tryd.prog 27 #[.slice ao s.ss.length cap, .func (.func 28) #[] #[], .int .i64 7] W fun E w' => E = .returned (.bool (s.ss.all Sh.good)) ∧ W.grownBy w' none) :=
      fun W h1 h2 => withinSh ao cap s.ss W h1 HL.out h2
    generalize [s.p, s.q].all Pl.good = b0 at *
    generalize s.ss.all Sh.good = b1 at *
    go_enter Tryd.func11, Tryd.ntmps11
    go_wp2_with fail
    refine C0.out.mono ?_
    rintro E w1 ⟨rfl, hb1⟩
    cases b0
    · go_wp2
      go_ret
      exact ⟨rfl, (grown_alloc _ _).trans hb1⟩
    · have c16 := (bk_cells (bk_grown HB.out hb1 (by simp))).2.2.2.2.1
      have HB1 := Lib.hid hb1
      clear hb1
      go_wp2_with fail
      refine (C1.out _ (Shs_grown HS.out HB1.out (by simp)) (tab_grown HT.out HB1.out (by simp))).mono ?_
      rintro E w2 ⟨rfl, hb2⟩
      have HB2 := Lib.hid hb2
      clear hb2
      cases b1
      · go_wp2
        go_ret
        exact ⟨rfl, ((grown_alloc _ _).trans HB1.out).trans HB2.out⟩
      · go_wp2
        go_ret
        exact ⟨rfl, ((grown_alloc _ _).trans HB1.out).trans HB2.out⟩
end Go.Proofs.YtbmkmmkebophpaaDoor
