/- Two players, two shots, two pairs of players, two scores: equal or not, as the program's '==' tells. -/
import Derived.Test.YtbmkmmkebophpaaDoorSk
import Derived.Laws.StructEq
import Derived.ChangeKeysEq
namespace Go.Proofs.YtbmkmmkebophpaaDoor
open Go.RowKit
set_option linter.unusedVariables false

theorem pl_dec (a b : Pl) : decide (a = b) = ((a.x == b.x) && ((a.y == b.y) && ((a.vx == b.vx) && ((a.vy == b.vy) && (((a.h : Int) == (b.h : Int)) && (((a.c : Int) == (b.c : Int)) && (((a.f : Int) == (b.f : Int))))))))) := by
  rw [Bool.eq_iff_iff]
  simp [pl_eq]
  intros
  omega
set_option maxHeartbeats 1000000 in
theorem pl_in (d : Nat) (a b : Pl) (w : World) : (Op.equalIn (d + 2) 24 (.agg #[.int .i32 a.x, .int .i32 a.y, .int .i32 a.vx, .int .i32 a.vy, .int .u8 (a.h : Int), .int .u8 (a.c : Int), .int .u8 (a.f : Int)]) (.agg #[.int .i32 b.x, .int .i32 b.y, .int .i32 b.vx, .int .i32 b.vy, .int .u8 (b.h : Int), .int .u8 (b.c : Int), .int .u8 (b.f : Int)])).run Tryd.prog w = .ok (decide (a = b)) w := by
  rw [pl_dec]
  cases h0 : a.x == b.x
  · simp [go_sem, h0]
  cases h1 : a.y == b.y
  · simp [go_sem, h0, h1]
  cases h2 : a.vx == b.vx
  · simp [go_sem, h0, h1, h2]
  cases h3 : a.vy == b.vy
  · simp [go_sem, h0, h1, h2, h3]
  cases h4 : (a.h : Int) == (b.h : Int)
  · simp [go_sem, h0, h1, h2, h3, h4]
  cases h5 : (a.c : Int) == (b.c : Int)
  · simp [go_sem, h0, h1, h2, h3, h4, h5]
  cases h6 : (a.f : Int) == (b.f : Int)
  · simp [go_sem, h0, h1, h2, h3, h4, h5, h6]
  · simp [go_sem, h0, h1, h2, h3, h4, h5, h6]

theorem sh_dec (a b : Sh) : decide (a = b) = ((a.x == b.x) && ((a.y == b.y) && ((a.vx == b.vx) && ((a.vy == b.vy) && (((a.o : Int) == (b.o : Int)) && (((a.l : Int) == (b.l : Int)))))))) := by
  rw [Bool.eq_iff_iff]
  simp [sh_eq]
  intros
  omega
set_option maxHeartbeats 1000000 in
theorem sh_in (d : Nat) (a b : Sh) (w : World) : (Op.equalIn (d + 2) 46 (.agg #[.int .i32 a.x, .int .i32 a.y, .int .i32 a.vx, .int .i32 a.vy, .int .u8 (a.o : Int), .int .u8 (a.l : Int)]) (.agg #[.int .i32 b.x, .int .i32 b.y, .int .i32 b.vx, .int .i32 b.vy, .int .u8 (b.o : Int), .int .u8 (b.l : Int)])).run Tryd.prog w = .ok (decide (a = b)) w := by
  rw [sh_dec]
  cases h0 : a.x == b.x
  · simp [go_sem, h0]
  cases h1 : a.y == b.y
  · simp [go_sem, h0, h1]
  cases h2 : a.vx == b.vx
  · simp [go_sem, h0, h1, h2]
  cases h3 : a.vy == b.vy
  · simp [go_sem, h0, h1, h2, h3]
  cases h4 : (a.o : Int) == (b.o : Int)
  · simp [go_sem, h0, h1, h2, h3, h4]
  cases h5 : (a.l : Int) == (b.l : Int)
  · simp [go_sem, h0, h1, h2, h3, h4, h5]
  · simp [go_sem, h0, h1, h2, h3, h4, h5]

theorem cells_pl : Tryd.prog.cellsOf 24 = 7 := by kernel_rfl
theorem arr_eql (a b c e : Pl) (w : World) : (binOp .eql 25 (.agg #[.int .i32 a.x, .int .i32 a.y, .int .i32 a.vx, .int .i32 a.vy, .int .u8 (a.h : Int), .int .u8 (a.c : Int), .int .u8 (a.f : Int), .int .i32 b.x, .int .i32 b.y, .int .i32 b.vx, .int .i32 b.vy, .int .u8 (b.h : Int), .int .u8 (b.c : Int), .int .u8 (b.f : Int)])
      (.agg #[.int .i32 c.x, .int .i32 c.y, .int .i32 c.vx, .int .i32 c.vy, .int .u8 (c.h : Int), .int .u8 (c.c : Int), .int .u8 (c.f : Int), .int .i32 e.x, .int .i32 e.y, .int .i32 e.vx, .int .i32 e.vy, .int .u8 (e.h : Int), .int .u8 (e.c : Int), .int .u8 (e.f : Int)])).run Tryd.prog w = .ok (.bool (decide (a = c) && decide (b = e))) w := by
  rw [run_eql_struct]
  obtain ⟨i, hi, _⟩ := Option.map_eq_some_iff.1 info_PlSz
  rw [run_equalIn_array w 9999 _ _ Tryd.underlying25 hi, cells_pl]
  have p0 : ∀ (x y : Pl) (W : World), (part 24 #[.int .i32 x.x, .int .i32 x.y, .int .i32 x.vx, .int .i32 x.vy, .int .u8 (x.h : Int), .int .u8 (x.c : Int), .int .u8 (x.f : Int), .int .i32 y.x, .int .i32 y.y, .int .i32 y.vx, .int .i32 y.vy, .int .u8 (y.h : Int), .int .u8 (y.c : Int), .int .u8 (y.f : Int)] (0 * 7)).run Tryd.prog W = .ok (.agg #[.int .i32 x.x, .int .i32 x.y, .int .i32 x.vx, .int .i32 x.vy, .int .u8 (x.h : Int), .int .u8 (x.c : Int), .int .u8 (x.f : Int)]) W := fun x y W => by simp [go_sem]
  have p1 : ∀ (x y : Pl) (W : World), (part 24 #[.int .i32 x.x, .int .i32 x.y, .int .i32 x.vx, .int .i32 x.vy, .int .u8 (x.h : Int), .int .u8 (x.c : Int), .int .u8 (x.f : Int), .int .i32 y.x, .int .i32 y.y, .int .i32 y.vx, .int .i32 y.vy, .int .u8 (y.h : Int), .int .u8 (y.c : Int), .int .u8 (y.f : Int)] (1 * 7)).run Tryd.prog W = .ok (.agg #[.int .i32 y.x, .int .i32 y.y, .int .i32 y.vx, .int .i32 y.vy, .int .u8 (y.h : Int), .int .u8 (y.c : Int), .int .u8 (y.f : Int)]) W := fun x y W => by simp [go_sem]
  have q : ∀ (x y : Pl) (W : World), (Op.equalIn 9999 24 (.agg #[.int .i32 x.x, .int .i32 x.y, .int .i32 x.vx, .int .i32 x.vy, .int .u8 (x.h : Int), .int .u8 (x.c : Int), .int .u8 (x.f : Int)]) (.agg #[.int .i32 y.x, .int .i32 y.y, .int .i32 y.vx, .int .i32 y.vy, .int .u8 (y.h : Int), .int .u8 (y.c : Int), .int .u8 (y.f : Int)])).run Tryd.prog W = .ok (decide (x = y)) W := fun x y W => pl_in 9997 x y W
  simp only [show List.range 2 = [0, 1] from rfl, Op.eqItems, Sem.run_bind, p0, q, Result.andThen_ok]
  cases decide (a = c)
  · simp
  · simp only [Bool.not_true, Bool.false_eq_true, if_false, Sem.run_bind, p1, q, Result.andThen_ok]
    cases decide (b = e) <;> simp
end Go.Proofs.YtbmkmmkebophpaaDoor
