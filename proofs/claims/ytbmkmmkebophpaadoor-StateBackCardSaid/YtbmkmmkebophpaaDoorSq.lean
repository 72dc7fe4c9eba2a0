/- A number brought within bounds, as the statements do: its contract. -/
import Derived.Test.YtbmkmmkebophpaaDoorSo
namespace Go.Proofs.YtbmkmmkebophpaaDoor
open Go.RowKit
set_option linter.unusedVariables false

/-- A number brought within bounds. -/
def nr (n a b : Int) : Int := a + n % (b - a + 1)
theorem nr_in {n a b : Int} (h : a ≤ b) : a ≤ nr n a b ∧ nr n a b ≤ b := by
  unfold nr
  have h1 := Int.emod_nonneg n (show b - a + 1 ≠ 0 by omega)
  have h2 := Int.emod_lt_of_pos n (show 0 < b - a + 1 by omega)
  omega
theorem tmod_twice (n w : Int) (hw : 0 < w) : (n.tmod w + w).tmod w = n % w := by
  have h1 := Int.tmod_lt_of_pos n hw
  have h2 : -w < n.tmod w := Int.lt_tmod_of_pos n hw
  rw [Int.tmod_eq_emod_of_nonneg (by omega), Int.add_emod_right, Int.tmod_eq_emod]
  split
  · simp
  · rw [Int.sub_emod]
    have : (w.natAbs : Int) = w := by omega
    simp [this]
theorem near_c (n a b : Int) (w : World) (hn : i32 n) (ha : i32 a) (hb : i32 b) (hab : a ≤ b) :
    Calls Tryd.prog 55 #[.int .i32 n, .int .i32 a, .int .i32 b] w fun E w' => E = .returned (.int .i32 (nr n a b)) ∧ w = w' := by
  obtain ⟨n1, n2⟩ := hn
  obtain ⟨a1, a2⟩ := ha
  obtain ⟨b1, b2⟩ := hb
  have hr := nr_in (n := n) hab
  have hT := Lib.hid (tmod_twice n (b - a + 1) (by omega))
  have HE : Hid (wrap32 (wrap64 (a + (wrap64 (n.tmod (b - a + 1) + (b - a + 1))).tmod (b - a + 1))) = nr n a b) := by
    show _ = _
    have h1 := Int.tmod_lt_of_pos n (show 0 < b - a + 1 by omega)
    have h2 : -(b - a + 1) < n.tmod (b - a + 1) := Int.lt_tmod_of_pos n (by omega)
    have e1 : wrap64 (n.tmod (b - a + 1) + (b - a + 1)) = n.tmod (b - a + 1) + (b - a + 1) := by
      generalize n.tmod (b - a + 1) = t at *
      unfold wrap64; omega
    rw [e1, hT.out]
    unfold nr at hr ⊢
    generalize n % (b - a + 1) = t at *
    unfold wrap64 wrap32; omega
  go_enter Tryd.func55, Tryd.ntmps55
  go_wp2
  go_ret
  exact ⟨congrArg (fun z => Ending.returned (.int .i32 z)) HE.out, rfl⟩
/-! A state that may be, out of any one. -/
def mdP (p : Pl) : Pl := ⟨nr p.x 0 61440, nr p.y 0 28672, nr p.vx (-1024) 1024, nr p.vy (-1024) 1024, 1 + p.h % 100, p.c % 31, p.f % 4⟩
def mdH (s : Sh) : Sh := ⟨nr s.x 0 65024, nr s.y 0 32256, nr s.vx (-2048) 2048, nr s.vy (-2048) 2048, s.o % 2, 1 + s.l % 40⟩
def md (s : St) : St := { s with p := mdP s.p, q := mdP s.q, ss := (s.ss.take 8).map mdH }
theorem okA_i (i : Nat) (n : Int) (h : lo i ≤ n ∧ n ≤ hi i) : okA i n = true := decide_eq_true h
theorem mdP_good (p : Pl) : (mdP p).good = true ∧ (mdP p).fit := by
  have h0 := nr_in (n := p.x) (show (0 : Int) ≤ 61440 by decide)
  have h1 := nr_in (n := p.y) (show (0 : Int) ≤ 28672 by decide)
  have h2 := nr_in (n := p.vx) (show (-1024 : Int) ≤ 1024 by decide)
  have h3 := nr_in (n := p.vy) (show (-1024 : Int) ≤ 1024 by decide)
  refine ⟨?_, ⟨?_, ?_⟩, ⟨?_, ?_⟩, ⟨?_, ?_⟩, ⟨?_, ?_⟩, ?_, ?_, ?_⟩
  · rw [goodPlayer]
    simp only [Bool.and_eq_true]
    (repeat' apply And.intro) <;> first | rfl | exact trivial | exact decide_eq_true (by first | omega | (try simp only [mdP]); omega)
  all_goals (simp only [mdP]; omega)
theorem mdH_good (s : Sh) : (mdH s).good = true ∧ (mdH s).fit := by
  have h0 := nr_in (n := s.x) (show (0 : Int) ≤ 65024 by decide)
  have h1 := nr_in (n := s.y) (show (0 : Int) ≤ 32256 by decide)
  have h2 := nr_in (n := s.vx) (show (-2048 : Int) ≤ 2048 by decide)
  have h3 := nr_in (n := s.vy) (show (-2048 : Int) ≤ 2048 by decide)
  refine ⟨?_, ⟨?_, ?_⟩, ⟨?_, ?_⟩, ⟨?_, ?_⟩, ⟨?_, ?_⟩, ?_, ?_⟩
  · rw [goodShot]
    simp only [Bool.and_eq_true]
    (repeat' apply And.intro) <;> first | rfl | exact trivial | exact decide_eq_true (by first | omega | (try simp only [mdH]); omega)
  all_goals (simp only [mdH]; omega)
theorem md_good (s : St) : (md s).good = true := by
  rw [good_st]
  have h : ((s.ss.take 8).map mdH).all Sh.good = true := by
    rw [List.all_eq_true]
    intro x hx
    obtain ⟨y, _, rfl⟩ := List.mem_map.1 hx
    exact (mdH_good y).1
  have hl : ((s.ss.take 8).map mdH).length ≤ 8 := by simp; omega
  have hd : decide ((md s).ss.length ≤ 8) = true := decide_eq_true hl
  have h' : (md s).ss.all Sh.good = true := h
  have hp : [(md s).p, (md s).q].all Pl.good = true := by simp [md, (mdP_good s.p).1, (mdP_good s.q).1]
  rw [hd, h', hp]
  rfl
theorem md_fit {s : St} (h1 : s.fr < 18446744073709551616) (h2 : s.sd < 18446744073709551616) (h3 : s.s0 < 65536) (h4 : s.s1 < 65536) : (md s).fit :=
  ⟨h1, h2, (mdP_good s.p).2, (mdP_good s.q).2, fun x hx => by
    obtain ⟨y, _, rfl⟩ := List.mem_map.1 (show x ∈ (s.ss.take 8).map mdH from hx)
    exact (mdH_good y).2, h3, h4⟩
end Go.Proofs.YtbmkmmkebophpaaDoor
