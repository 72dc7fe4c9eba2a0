/- Texts of elder layers, one behind the other. -/
import Derived.Test.YtgmbdadkahcpcaaDoorAd
import Derived.Test.YtgmbdadkahcpcaaDoorAb
import Derived.Test.YtgmbdadkahcpcaaDoorAe
import Derived.Deep.DeepCutAuto
import Derived.Test.YtgmbdadkahcpcaaDoorAc
/- What a frame makes of a state: the plain mathematics of layer 9. Nothing of the program. -/
namespace Go.Proofs.YtgmbdadkahcpcaaDoor
open Go.RowKit
set_option linter.unusedVariables false
set_option linter.unusedSimpArgs false

/-- What an input says: its direction, whether it fires, whether it dashes. -/
structure Inp where
  x : Int
  y : Int
  f : Bool
  d : Bool
def Inp.ok (i : Inp) : Prop := (-1 ≤ i.x ∧ i.x ≤ 1) ∧ (-1 ≤ i.y ∧ i.y ≤ 1)
def Inp.none : Inp := ⟨0, 0, false, false⟩
/-- A speed without an input in its direction. -/
def slow (v : Int) : Int := if -8 < v - v.tdiv 8 ∧ v - v.tdiv 8 < 8 then 0 else v - v.tdiv 8
def clV (v : Int) : Int := if 1024 < v then 1024 else if v < -1024 then -1024 else v
/-- A speed behind an input. -/
def spd (v d : Int) (dash : Bool) : Int := clV (if dash then (if d = 0 then slow v else v + 64 * d) * 2 else if d = 0 then slow v else v + 64 * d)
theorem spd_in (v d : Int) (dash : Bool) : -1024 ≤ spd v d dash ∧ spd v d dash ≤ 1024 := by
  unfold spd clV
  generalize (if dash then (if d = 0 then slow v else v + 64 * d) * 2 else if d = 0 then slow v else v + 64 * d) = n
  split
  · omega
  · split <;> omega
def faceOf (i : Inp) (f : Nat) : Nat := if 0 < i.x then 0 else if i.x < 0 then 1 else if i.y < 0 then 2 else if 0 < i.y then 3 else f
def coolOf (c : Nat) : Nat := if 0 < c then c - 1 else c
/-- 1, of a player. -/
def one (p : Pl) (i : Inp) : Pl :=
  ⟨p.x, p.y, spd p.vx i.x (i.d && decide (coolOf p.c = 0)), spd p.vy i.y (i.d && decide (coolOf p.c = 0)), p.h, if i.d && decide (coolOf p.c = 0) then 30 else coolOf p.c, faceOf i p.f⟩
def St.pl (s : St) (k : Nat) : Pl := if k = 0 then s.p else s.q
def St.setPl (s : St) (k : Nat) (p : Pl) : St := if k = 0 then { s with p := p } else { s with q := p }
/-- The shot that a player fires. -/
def shotOf (p : Pl) (o : Nat) : Sh := ⟨p.x + 1792, p.y + 1792, [2048, -2048, 0, 0].getD p.f 0, [0, 0, -2048, 2048].getD p.f 0, o, 40⟩
/-- 2, of a player. -/
def fire (s : St) (k : Nat) (f : Bool) : St :=
  if f = true ∧ (s.pl k).c = 0 ∧ s.ss.length < 8 then { s.setPl k { s.pl k with c := 10 } with ss := s.ss ++ [shotOf (s.pl k) k] } else s
/-- A number within two others. -/
def cut0 (n u : Int) : Int := max 0 (min n u)
/-- A player's move. -/
def goP (p : Pl) : Pl :=
  { p with x := cut0 (p.x + p.vx) 61440, vx := if cut0 (p.x + p.vx) 61440 ≠ p.x + p.vx then 0 else p.vx, y := cut0 (p.y + p.vy) 28672, vy := if cut0 (p.y + p.vy) 28672 ≠ p.y + p.vy then 0 else p.vy }
/-- Are two players over one another? -/
def OvP (p q : Pl) : Prop := (p.x < q.x + 4096 ∧ q.x < p.x + 4096) ∧ (p.y < q.y + 4096 ∧ q.y < p.y + 4096)
instance (p q : Pl) : Decidable (OvP p q) := by unfold OvP; exact inferInstance
/-- Is a shot over a player? -/
def OvS (x : Sh) (p : Pl) : Prop := (x.x < p.x + 4096 ∧ p.x < x.x + 512) ∧ (x.y < p.y + 4096 ∧ p.y < x.y + 512)
instance (x : Sh) (p : Pl) : Decidable (OvS x p) := by unfold OvS; exact inferInstance
def haltP (p : Pl) : Pl := { p with vx := 0, vy := 0 }
/-- 3. -/
def three (s : St) : St := if OvP (goP s.p) (goP s.q) then { s with p := haltP s.p, q := haltP s.q } else { s with p := goP s.p, q := goP s.q }
/-- A shot, moved on. -/
def goS (x : Sh) : Sh := ⟨x.x + x.vx, x.y + x.vy, x.vx, x.vy, x.o, x.l - 1⟩
def InA (x : Sh) : Prop := (0 ≤ x.x ∧ x.x + 512 ≤ 65536) ∧ (0 ≤ x.y ∧ x.y + 512 ≤ 32768)
instance (x : Sh) : Decidable (InA x) := by unfold InA; exact inferInstance
/-- The owner's score is one more, if it may be. -/
def St.score (s : St) (o : Nat) : St := if o = 0 then { s with s0 := if s.s0 < 65535 then s.s0 + 1 else s.s0 } else { s with s1 := if s.s1 < 65535 then s.s1 + 1 else s.s1 }
/-- 4, of a shot. -/
def hit (s : St) (x : Sh) : St :=
  if ¬ InA (goS x) then s
  else if OvS (goS x) (s.pl (1 - x.o)) then (s.setPl (1 - x.o) { s.pl (1 - x.o) with h := (s.pl (1 - x.o)).h - 10 }).score x.o
  else if 0 < (goS x).l then { s with ss := s.ss ++ [goS x] } else s
def four (s : St) : St := s.ss.foldl hit { s with ss := [] }
/-- What the source tells next. -/
structure Src where
  num : Nat → Nat → Nat
  nxt : Nat → Nat
/-- Where a player is brought back: at the two numbers, or where he was. -/
def spot (r : Src) (s : St) (k : Nat) : Pl :=
  if OvP { s.pl k with x := (r.num s.sd 61441 : Int), y := (r.num (r.nxt s.sd) 28673 : Int), vx := 0, vy := 0, h := 100 } (s.pl (1 - k)) then { s.pl k with vx := 0, vy := 0, h := 100 }
  else { s.pl k with x := (r.num s.sd 61441 : Int), y := (r.num (r.nxt s.sd) 28673 : Int), vx := 0, vy := 0, h := 100 }
/-- 5, of a player, by a source (the number below n that a seed tells; the seed behind it). -/
def back (r : Src) (s : St) (k : Nat) : St := if 0 < (s.pl k).h then s else { s.setPl k (spot r s k) with sd := r.nxt (r.nxt s.sd) }
/-- A frame. -/
def frame (r : Src) (s : St) (i j : Inp) : St :=
  let t := back r (back r (four (three (fire (fire { s with p := one s.p i, q := one s.q j } 0 i.f) 1 j.f))) 0) 1
  { t with fr := (t.fr + 1) % 18446744073709551616 }

/-! What may be may be. -/
structure Pl.ok (p : Pl) : Prop where
  x : 0 ≤ p.x ∧ p.x ≤ 61440
  y : 0 ≤ p.y ∧ p.y ≤ 28672
  vx : -1024 ≤ p.vx ∧ p.vx ≤ 1024
  vy : -1024 ≤ p.vy ∧ p.vy ≤ 1024
  h : p.h ≤ 100
  c : p.c ≤ 30
  f : p.f ≤ 3
structure Sh.ok (z : Sh) : Prop where
  x : 0 ≤ z.x ∧ z.x ≤ 65024
  y : 0 ≤ z.y ∧ z.y ≤ 32256
  vx : -2048 ≤ z.vx ∧ z.vx ≤ 2048
  vy : -2048 ≤ z.vy ∧ z.vy ≤ 2048
  o : z.o ≤ 1
  l : 1 ≤ z.l ∧ z.l ≤ 40
theorem inb_iff (n a b : Int) : inb n a b = true ↔ a ≤ n ∧ n ≤ b := by unfold inb; exact decide_eq_true_iff
theorem pl_good_iff (p : Pl) : p.good = true ↔ p.ok ∧ 1 ≤ p.h := by
  rw [goodPlayer]
  simp only [Bool.and_eq_true, inb_iff, and_true]
  constructor
  · rintro ⟨a, b, c, d, e, f, g⟩; exact ⟨⟨a, b, c, d, by omega, by omega, by omega⟩, by omega⟩
  · rintro ⟨⟨a, b, c, d, e, f, g⟩, i⟩; exact ⟨a, b, c, d, by omega, by omega, by omega⟩
theorem sh_good_iff (x : Sh) : x.good = true ↔ x.ok := by
  rw [goodShot]
  simp only [Bool.and_eq_true, inb_iff, and_true]
  constructor
  · rintro ⟨a, b, c, d, e, f⟩; exact ⟨a, b, c, d, by omega, by omega⟩
  · rintro ⟨a, b, c, d, e, f⟩; exact ⟨a, b, c, d, by omega, by omega⟩
/-- A state that may be, but that Health may be 0. -/
structure St.ok (s : St) : Prop where
  p : s.p.ok
  q : s.q.ok
  n : s.ss.length ≤ 8
  ss : ∀ x ∈ s.ss, x.ok
  s0 : s.s0 ≤ 65535
  s1 : s.s1 ≤ 65535
theorem st_ok_of {s : St} (h : s.good = true) (hf : s.fit) : s.ok ∧ 1 ≤ s.p.h ∧ 1 ≤ s.q.h := by
  rw [good_st] at h
  simp only [Bool.and_eq_true, decide_eq_true_eq, List.all_cons, List.all_nil, Bool.and_true, List.all_eq_true] at h
  obtain ⟨⟨hn, hp, hq⟩, hs⟩ := h
  obtain ⟨p1, p2⟩ := (pl_good_iff s.p).1 hp
  obtain ⟨q1, q2⟩ := (pl_good_iff s.q).1 hq
  obtain ⟨_, _, _, _, _, h0, h1⟩ := hf
  exact ⟨⟨p1, q1, hn, fun x hx => (sh_good_iff x).1 (hs x hx), by omega, by omega⟩, p2, q2⟩
theorem st_good_of {s : St} (h : s.ok) (h1 : 1 ≤ s.p.h) (h2 : 1 ≤ s.q.h) : s.good = true := by
  rw [good_st]
  simp only [Bool.and_eq_true, decide_eq_true_eq, List.all_cons, List.all_nil, Bool.and_true, List.all_eq_true]
  exact ⟨⟨h.n, (pl_good_iff s.p).2 ⟨h.p, h1⟩, (pl_good_iff s.q).2 ⟨h.q, h2⟩⟩, fun x hx => (sh_good_iff x).2 (h.ss x hx)⟩
theorem one_ok {p : Pl} (h : p.ok) (i : Inp) : (one p i).ok := by
  refine ⟨h.x, h.y, spd_in _ _ _, spd_in _ _ _, h.h, ?_, ?_⟩
  · have := h.c
    simp only [one, coolOf]
    (repeat' split) <;> omega
  · have := h.f
    simp only [one, faceOf]
    (repeat' split) <;> omega
theorem ite_in {c : Prop} [Decidable c] {v a b : Int} (ha : a ≤ 0) (hb : 0 ≤ b) (h : a ≤ v ∧ v ≤ b) : a ≤ (if c then 0 else v) ∧ (if c then 0 else v) ≤ b := by
  split
  · exact ⟨ha, hb⟩
  · exact h
theorem goP_ok {p : Pl} (h : p.ok) : (goP p).ok := by
  obtain ⟨hx, hy, hvx, hvy, hh, hc, hf⟩ := h
  refine ⟨?_, ?_, ?_, ?_, hh, hc, hf⟩ <;> simp only [goP, cut0]
  · omega
  · omega
  · exact ite_in (by omega) (by omega) hvx
  · exact ite_in (by omega) (by omega) hvy
theorem haltP_ok {p : Pl} (h : p.ok) : (haltP p).ok := ⟨h.x, h.y, by simp [haltP], by simp [haltP], h.h, h.c, h.f⟩
theorem three_ok {s : St} (h : s.ok) : (three s).ok := by
  unfold three
  split
  · exact ⟨haltP_ok h.p, haltP_ok h.q, h.n, h.ss, h.s0, h.s1⟩
  · exact ⟨goP_ok h.p, goP_ok h.q, h.n, h.ss, h.s0, h.s1⟩
theorem shotOf_ok {p : Pl} (h : p.ok) {o : Nat} (ho : o ≤ 1) : (shotOf p o).ok := by
  obtain ⟨hx, hy, _, _, _, _, hf⟩ := h
  refine ⟨by simp only [shotOf]; omega, by simp only [shotOf]; omega, ?_, ?_, ho, by simp [shotOf]⟩
  all_goals
    simp only [shotOf]
    have h4 : p.f = 0 ∨ p.f = 1 ∨ p.f = 2 ∨ p.f = 3 := by omega
    rcases h4 with e | e | e | e <;> rw [e] <;> decide
theorem setPl_ok {s : St} {k : Nat} {p : Pl} (h : s.ok) (hp : p.ok) : (s.setPl k p).ok := by
  unfold St.setPl
  split
  · exact ⟨hp, h.q, h.n, h.ss, h.s0, h.s1⟩
  · exact ⟨h.p, hp, h.n, h.ss, h.s0, h.s1⟩
theorem pl_ok {s : St} (h : s.ok) (k : Nat) : (s.pl k).ok := by unfold St.pl; split; exact h.p; exact h.q
theorem setPl_ss (s : St) (k : Nat) (p : Pl) : (s.setPl k p).ss = s.ss := by unfold St.setPl; split <;> rfl
theorem fire_ok {s : St} (h : s.ok) {k : Nat} (hk : k ≤ 1) (f : Bool) : (fire s k f).ok := by
  unfold fire
  split
  · rename_i hc
    have hp := pl_ok h k
    have h1 := setPl_ok (k := k) (p := { s.pl k with c := 10 }) h ⟨hp.x, hp.y, hp.vx, hp.vy, hp.h, by simp, hp.f⟩
    refine ⟨h1.p, h1.q, by simp; omega, fun x hx => ?_, h1.s0, h1.s1⟩
    rcases List.mem_append.1 hx with hx | hx
    · exact h.ss x hx
    · rw [List.mem_singleton] at hx
      subst hx
      exact shotOf_ok hp hk
  · exact h
theorem goS_ok {x : Sh} (h : x.ok) (ha : InA (goS x)) (hl : 0 < (goS x).l) : (goS x).ok := by
  obtain ⟨hx, hy, hvx, hvy, ho, hh⟩ := h
  obtain ⟨⟨a1, a2⟩, a3, a4⟩ := ha
  have hl2 : (goS x).l = x.l - 1 := rfl
  exact ⟨⟨a1, by omega⟩, ⟨a3, by omega⟩, hvx, hvy, ho, ⟨hl, by omega⟩⟩
theorem score_ok {s : St} (h : s.ok) (o : Nat) : (s.score o).ok := by
  unfold St.score
  split
  · exact ⟨h.p, h.q, h.n, h.ss, by have := h.s0; simp only; split <;> omega, h.s1⟩
  · exact ⟨h.p, h.q, h.n, h.ss, h.s0, by have := h.s1; simp only; split <;> omega⟩
theorem score_ss (s : St) (o : Nat) : (s.score o).ss = s.ss := by unfold St.score; split <;> rfl
theorem hit_ok {s : St} (h : s.ok) {x : Sh} (hx : x.ok) (hn : s.ss.length < 8) : (hit s x).ok := by
  unfold hit
  split
  · exact h
  · rename_i ha
    split
    · have hp := pl_ok h (1 - x.o)
      exact score_ok (setPl_ok (k := 1 - x.o) (p := { s.pl (1 - x.o) with h := (s.pl (1 - x.o)).h - 10 }) h ⟨hp.x, hp.y, hp.vx, hp.vy, by have := hp.h; simp; omega, hp.c, hp.f⟩) _
    · split
      · rename_i hl
        refine ⟨h.p, h.q, by simp; omega, fun y hy => ?_, h.s0, h.s1⟩
        rcases List.mem_append.1 hy with hy | hy
        · exact h.ss y hy
        · rw [List.mem_singleton] at hy
          subst hy
          exact goS_ok hx (Classical.not_not.1 ha) hl
      · exact h
theorem hit_len (s : St) (x : Sh) : (hit s x).ss.length ≤ s.ss.length + 1 := by
  unfold hit
  split
  · omega
  · split
    · rw [score_ss, setPl_ss]; omega
    · split
      · simp
      · omega
theorem hits_ok : ∀ (l : List Sh) (s : St), s.ok → (∀ x ∈ l, x.ok) → s.ss.length + l.length ≤ 8 → (l.foldl hit s).ok ∧ (l.foldl hit s).ss.length ≤ s.ss.length + l.length
  | [], s, h, _, _ => ⟨h, by simp⟩
  | x :: l, s, h, hl, hn => by
    simp only [List.length_cons] at hn
    have h1 := hit_len s x
    obtain ⟨a, b⟩ := hits_ok l (hit s x) (hit_ok h (hl x (by simp)) (by omega)) (fun y hy => hl y (by simp [hy])) (by omega)
    exact ⟨a, by simp only [List.foldl_cons, List.length_cons]; omega⟩
theorem four_ok {s : St} (h : s.ok) : (four s).ok ∧ (four s).ss.length ≤ s.ss.length := by
  obtain ⟨a, b⟩ := hits_ok s.ss { s with ss := [] } ⟨h.p, h.q, by simp, fun x hx => by simp at hx, h.s0, h.s1⟩ h.ss (by have := h.n; simpa using this)
  exact ⟨a, by unfold four; simpa using b⟩
/-- Numbers below what is asked. -/
structure Src.ok (r : Src) : Prop where
  lt : ∀ s n, 0 < n → n ≤ 61441 → r.num s n < n
  nxt : ∀ s, r.nxt s < 18446744073709551616
  two : ∀ s, s < 18446744073709551616 → r.nxt (r.nxt s) ≠ s
  four : ∀ s, s < 18446744073709551616 → r.nxt (r.nxt (r.nxt (r.nxt s))) ≠ s
theorem spot_ok {r : Src} (hr : r.ok) {s : St} (h : s.ok) (k : Nat) : (spot r s k).ok := by
  have hp := pl_ok h k
  have hx := hr.lt s.sd 61441 (by decide) (by decide)
  have hy := hr.lt (r.nxt s.sd) 28673 (by decide) (by decide)
  unfold spot
  split
  · exact ⟨hp.x, hp.y, by simp, by simp, by simp, hp.c, hp.f⟩
  · exact ⟨by simp only; omega, by simp only; omega, by simp, by simp, by simp, hp.c, hp.f⟩
theorem back_ok {r : Src} (hr : r.ok) {s : St} (h : s.ok) (k : Nat) : (back r s k).ok := by
  unfold back
  split
  · exact h
  · have h1 := setPl_ok (k := k) h (spot_ok hr h k)
    exact ⟨h1.p, h1.q, h1.n, h1.ss, h1.s0, h1.s1⟩
end Go.Proofs.YtgmbdadkahcpcaaDoor
/- What a frame makes of a state that may be: the plain mathematics of P9.3. Nothing of the program. -/
namespace Go.Proofs.YtgmbdadkahcpcaaDoor
open Go.RowKit
set_option linter.unusedVariables false
set_option linter.unusedSimpArgs false

/-- Frame, seed and places stay, scores do not fall. -/
structure Keep (s t : St) : Prop where
  fr : t.fr = s.fr
  sd : t.sd = s.sd
  px : t.p.x = s.p.x
  py : t.p.y = s.p.y
  qx : t.q.x = s.q.x
  qy : t.q.y = s.q.y
  s0 : s.s0 ≤ t.s0
  s1 : s.s1 ≤ t.s1
theorem Keep.refl (s : St) : Keep s s := ⟨rfl, rfl, rfl, rfl, rfl, rfl, Nat.le_refl _, Nat.le_refl _⟩
theorem Keep.trans {s t u : St} (h : Keep s t) (k : Keep t u) : Keep s u :=
  ⟨k.fr.trans h.fr, k.sd.trans h.sd, k.px.trans h.px, k.py.trans h.py, k.qx.trans h.qx, k.qy.trans h.qy, Nat.le_trans h.s0 k.s0, Nat.le_trans h.s1 k.s1⟩
theorem fire_keep (s : St) (k : Nat) (f : Bool) : Keep s (fire s k f) := by
  unfold fire
  split
  · by_cases hk : k = 0
    · subst hk; exact ⟨rfl, rfl, rfl, rfl, rfl, rfl, Nat.le_refl _, Nat.le_refl _⟩
    · simp only [St.setPl, St.pl, if_neg hk]; exact ⟨rfl, rfl, rfl, rfl, rfl, rfl, Nat.le_refl _, Nat.le_refl _⟩
  · exact Keep.refl s
theorem score_keep (s : St) (o : Nat) : Keep s (s.score o) := by
  unfold St.score
  split
  · exact ⟨rfl, rfl, rfl, rfl, rfl, rfl, by simp only; split <;> omega, Nat.le_refl _⟩
  · exact ⟨rfl, rfl, rfl, rfl, rfl, rfl, Nat.le_refl _, by simp only; split <;> omega⟩
theorem hurt_keep (s : St) (k n : Nat) : Keep s (s.setPl k { s.pl k with h := n }) := by
  by_cases hk : k = 0
  · subst hk; exact ⟨rfl, rfl, rfl, rfl, rfl, rfl, Nat.le_refl _, Nat.le_refl _⟩
  · simp only [St.setPl, St.pl, if_neg hk]; exact ⟨rfl, rfl, rfl, rfl, rfl, rfl, Nat.le_refl _, Nat.le_refl _⟩
theorem hit_keep (s : St) (x : Sh) : Keep s (hit s x) := by
  unfold hit
  split
  · exact Keep.refl s
  · split
    · exact (hurt_keep s _ _).trans (score_keep _ _)
    · split
      · exact ⟨rfl, rfl, rfl, rfl, rfl, rfl, Nat.le_refl _, Nat.le_refl _⟩
      · exact Keep.refl s
theorem hits_keep : ∀ (l : List Sh) (s : St), Keep s (l.foldl hit s)
  | [], s => Keep.refl s
  | x :: l, s => (hit_keep s x).trans (hits_keep l (hit s x))
theorem four_keep (s : St) : Keep s (four s) :=
  Keep.trans (t := { s with ss := [] }) ⟨rfl, rfl, rfl, rfl, rfl, rfl, Nat.le_refl _, Nat.le_refl _⟩ (hits_keep s.ss { s with ss := [] })
theorem ovp_comm (p q : Pl) : OvP p q ↔ OvP q p := by unfold OvP; omega
/-- Players at the same places are over one another alike. -/
theorem ovp_same {p q p' q' : Pl} (h1 : p'.x = p.x) (h2 : p'.y = p.y) (h3 : q'.x = q.x) (h4 : q'.y = q.y) : OvP p' q' ↔ OvP p q := by unfold OvP; rw [h1, h2, h3, h4]
theorem fire_len (s : St) (k : Nat) (f : Bool) : (fire s k f).ss.length ≤ s.ss.length + 1 := by
  unfold fire
  split
  · simp
  · omega
/-- The state behind 1 and 2. -/
def shoot (s : St) (i j : Inp) : St := fire (fire { s with p := one s.p i, q := one s.q j } 0 i.f) 1 j.f
theorem shoot_keep (s : St) (i j : Inp) : Keep s (shoot s i j) :=
  Keep.trans (t := { s with p := one s.p i, q := one s.q j }) ⟨rfl, rfl, rfl, rfl, rfl, rfl, Nat.le_refl _, Nat.le_refl _⟩ ((fire_keep _ 0 i.f).trans (fire_keep _ 1 j.f))
theorem shoot_ok {s : St} (h : s.ok) (i j : Inp) : (shoot s i j).ok :=
  fire_ok (k := 1) (fire_ok (k := 0) (s := { s with p := one s.p i, q := one s.q j }) ⟨one_ok h.p i, one_ok h.q j, h.n, h.ss, h.s0, h.s1⟩ (by omega) i.f) (by omega) j.f
theorem shoot_len (s : St) (i j : Inp) : (shoot s i j).ss.length ≤ s.ss.length + 2 := by
  have h1 := fire_len { s with p := one s.p i, q := one s.q j } 0 i.f
  have h2 := fire_len (fire { s with p := one s.p i, q := one s.q j } 0 i.f) 1 j.f
  have h3 : ({ s with p := one s.p i, q := one s.q j } : St).ss.length = s.ss.length := rfl
  unfold shoot
  omega
/-- Within MaxSpeed. -/
def Nigh (p q : Pl) : Prop := (q.x - p.x ≤ 1024 ∧ p.x - q.x ≤ 1024) ∧ (q.y - p.y ≤ 1024 ∧ p.y - q.y ≤ 1024)
theorem goP_nigh {p : Pl} (h : p.ok) : Nigh p (goP p) := by
  obtain ⟨hx, hy, hvx, hvy, _, _, _⟩ := h
  unfold Nigh
  simp only [goP, cut0]
  omega
theorem three_says {s : St} (h : s.ok) : (three s).fr = s.fr ∧ (three s).sd = s.sd ∧ (three s).s0 = s.s0 ∧ (three s).s1 = s.s1 ∧ (three s).ss = s.ss ∧ Nigh s.p (three s).p ∧ Nigh s.q (three s).q ∧ (three s).p.h = s.p.h ∧ (three s).q.h = s.q.h ∧ (¬ OvP s.p s.q → ¬ OvP (three s).p (three s).q) := by
  unfold three
  split
  · exact ⟨rfl, rfl, rfl, rfl, rfl, by unfold Nigh haltP; simp only; omega, by unfold Nigh haltP; simp only; omega, rfl, rfl, fun k e => k ((ovp_same rfl rfl rfl rfl).1 e)⟩
  · rename_i hn
    exact ⟨rfl, rfl, rfl, rfl, rfl, goP_nigh h.p, goP_nigh h.q, rfl, rfl, fun _ => hn⟩
theorem spot_h (r : Src) (s : St) (k : Nat) : (spot r s k).h = 100 := by unfold spot; split <;> rfl
/-- Who is brought back is not over the other one, if he was not. -/
theorem spot_over (r : Src) (s : St) (k : Nat) (h : ¬ OvP (s.pl k) (s.pl (1 - k))) : ¬ OvP (spot r s k) (s.pl (1 - k)) := by
  unfold spot
  split
  · exact fun e => h ((ovp_same rfl rfl rfl rfl).1 e)
  · rename_i hn; exact hn
/-- 5, of player 0. -/
theorem back0 (r : Src) (s : St) : (back r s 0).fr = s.fr ∧ (back r s 0).s0 = s.s0 ∧ (back r s 0).s1 = s.s1 ∧ (back r s 0).ss = s.ss ∧ (back r s 0).q = s.q ∧ 1 ≤ (back r s 0).p.h ∧
    (((back r s 0).p = s.p ∧ (back r s 0).sd = s.sd) ∨ ((back r s 0).sd = r.nxt (r.nxt s.sd) ∧ (back r s 0).p.h = 100)) ∧ (¬ OvP s.p s.q → ¬ OvP (back r s 0).p (back r s 0).q) := by
  unfold back
  split
  · rename_i h
    exact ⟨rfl, rfl, rfl, rfl, rfl, h, .inl ⟨rfl, rfl⟩, fun e => e⟩
  · have h1 := spot_h r s 0
    exact ⟨rfl, rfl, rfl, rfl, rfl, by show 1 ≤ (spot r s 0).h; omega, .inr ⟨rfl, h1⟩, fun e => spot_over r s 0 e⟩
/-- 5, of player 1. -/
theorem back1 (r : Src) (s : St) : (back r s 1).fr = s.fr ∧ (back r s 1).s0 = s.s0 ∧ (back r s 1).s1 = s.s1 ∧ (back r s 1).ss = s.ss ∧ (back r s 1).p = s.p ∧ 1 ≤ (back r s 1).q.h ∧
    (((back r s 1).q = s.q ∧ (back r s 1).sd = s.sd) ∨ ((back r s 1).sd = r.nxt (r.nxt s.sd) ∧ (back r s 1).q.h = 100)) ∧ (¬ OvP s.p s.q → ¬ OvP (back r s 1).p (back r s 1).q) := by
  unfold back
  split
  · rename_i h
    exact ⟨rfl, rfl, rfl, rfl, rfl, h, .inl ⟨rfl, rfl⟩, fun e => e⟩
  · have h1 := spot_h r s 1
    exact ⟨rfl, rfl, rfl, rfl, rfl, by show 1 ≤ (spot r s 1).h; omega, .inr ⟨rfl, h1⟩, fun e k => spot_over r s 1 (fun k => e ((ovp_comm _ _).1 k)) ((ovp_comm _ _).1 k)⟩
/-- P9.3. -/
theorem frame_right {r : Src} (hr : r.ok) {s : St} (h : s.good = true) (hf : s.fit) (i j : Inp) :
    (frame r s i j).good = true ∧ (frame r s i j).fit ∧ (frame r s i j).fr = (s.fr + 1) % 18446744073709551616 ∧ (frame r s i j).ss.length ≤ s.ss.length + 2 ∧
    (¬ OvP s.p s.q → ¬ OvP (frame r s i j).p (frame r s i j).q) ∧ s.s0 ≤ (frame r s i j).s0 ∧ s.s1 ≤ (frame r s i j).s1 ∧
    (Nigh s.p (frame r s i j).p ∨ ((frame r s i j).sd ≠ s.sd ∧ (frame r s i j).p.h = 100)) ∧ (Nigh s.q (frame r s i j).q ∨ ((frame r s i j).sd ≠ s.sd ∧ (frame r s i j).q.h = 100)) := by
  obtain ⟨hok, hp1, hq1⟩ := st_ok_of h hf
  have k1 := shoot_keep s i j
  have o1 := shoot_ok hok i j
  have l1 := shoot_len s i j
  obtain ⟨f2, d2, a2, b2, s2, np, nq, hp2, hq2, v2⟩ := three_says o1
  have o2 := three_ok o1
  have k3 := four_keep (three (shoot s i j))
  obtain ⟨o3, l3⟩ := four_ok o2
  obtain ⟨f4, a4, b4, s4, q4, h4, w4, v4⟩ := back0 r (four (three (shoot s i j)))
  have o4 := back_ok hr o3 0
  obtain ⟨f5, a5, b5, s5, q5, h5, w5, v5⟩ := back1 r (back r (four (three (shoot s i j))) 0)
  have o5 := back_ok hr o4 1
  have he : frame r s i j = { back r (back r (four (three (shoot s i j))) 0) 1 with fr := ((back r (back r (four (three (shoot s i j))) 0) 1).fr + 1) % 18446744073709551616 } := rfl
  generalize frame r s i j = t at *
  generalize back r (back r (four (three (shoot s i j))) 0) 1 = u5 at *
  generalize back r (four (three (shoot s i j))) 0 = u4 at *
  generalize four (three (shoot s i j)) = u3 at *
  generalize three (shoot s i j) = u2 at *
  generalize shoot s i j = u1 at *
  have tp : t.p = u5.p := by rw [he]
  have tq : t.q = u5.q := by rw [he]
  have td : t.sd = u5.sd := by rw [he]
  have ts : t.ss = u5.ss := by rw [he]
  have t0 : t.s0 = u5.s0 := by rw [he]
  have t1 : t.s1 = u5.s1 := by rw [he]
  have tf : t.fr = (u5.fr + 1) % 18446744073709551616 := by rw [he]
  have hfr : u5.fr = s.fr := by rw [f5, f4, k3.fr, f2, k1.fr]
  have hok5 : t.ok := ⟨by rw [tp]; exact o5.p, by rw [tq]; exact o5.q, by rw [ts]; exact o5.n, by rw [ts]; exact o5.ss, by rw [t0]; exact o5.s0, by rw [t1]; exact o5.s1⟩
  have hsd3 : u3.sd = s.sd := by rw [k3.sd, d2, k1.sd]
  have hgood : t.good = true := st_good_of hok5 (by rw [tp, q5]; exact h4) (by rw [tq]; exact h5)
  have hsl : s.sd < 18446744073709551616 := hf.2.1
  have hn2 := hr.two s.sd hsl
  have hn4 := hr.four s.sd hsl
  have hsd : u5.sd < 18446744073709551616 := by
    rcases w5 with ⟨_, e⟩ | ⟨e, _⟩
    · rw [e]
      rcases w4 with ⟨_, e⟩ | ⟨e, _⟩
      · rw [e, hsd3]; exact hsl
      · rw [e]; exact hr.nxt _
    · rw [e]; exact hr.nxt _
  have npp : Nigh s.p u3.p := by
    unfold Nigh at np ⊢
    rw [k3.px, k3.py, ← k1.px, ← k1.py]; exact np
  have nqq : Nigh s.q u3.q := by
    unfold Nigh at nq ⊢
    rw [k3.qx, k3.qy, ← k1.qx, ← k1.qy]; exact nq
  refine ⟨hgood, ?_, by rw [tf, hfr], by rw [ts, s5, s4]; rw [s2] at l3; omega, ?_, by rw [t0, a5, a4]; exact Nat.le_trans k1.s0 (by rw [← a2]; exact k3.s0), by rw [t1, b5, b4]; exact Nat.le_trans k1.s1 (by rw [← b2]; exact k3.s1), ?_, ?_⟩
  · refine ⟨by rw [tf]; exact Nat.mod_lt _ (by decide), by rw [td]; exact hsd, ?_, ?_, ?_, by have := hok5.s0; omega, by have := hok5.s1; omega⟩
    · obtain ⟨a, b, c, d, e, f, g⟩ := hok5.p
      exact ⟨⟨by omega, by omega⟩, ⟨by omega, by omega⟩, ⟨by omega, by omega⟩, ⟨by omega, by omega⟩, by omega, by omega, by omega⟩
    · obtain ⟨a, b, c, d, e, f, g⟩ := hok5.q
      exact ⟨⟨by omega, by omega⟩, ⟨by omega, by omega⟩, ⟨by omega, by omega⟩, ⟨by omega, by omega⟩, by omega, by omega, by omega⟩
    · intro x hx
      obtain ⟨a, b, c, d, e, f⟩ := hok5.ss x hx
      exact ⟨⟨by omega, by omega⟩, ⟨by omega, by omega⟩, ⟨by omega, by omega⟩, ⟨by omega, by omega⟩, by omega, by omega⟩
  · intro hno
    rw [tp, tq]
    refine v5 (v4 ?_)
    rw [ovp_same k3.px k3.py k3.qx k3.qy]
    refine v2 ?_
    rw [ovp_same k1.px k1.py k1.qx k1.qy]
    exact hno
  · rw [tp, td, q5]
    rcases w4 with ⟨e, _⟩ | ⟨e, e2⟩
    · rw [e]; exact .inl npp
    · refine .inr ⟨?_, e2⟩
      rcases w5 with ⟨_, g⟩ | ⟨g, _⟩
      · rw [g, e, hsd3]; exact hn2
      · rw [g, e, hsd3]; exact hn4
  · rw [tq, td]
    rcases w5 with ⟨e, g⟩ | ⟨g, g2⟩
    · rw [e, q4]; exact .inl nqq
    · refine .inr ⟨?_, g2⟩
      rcases w4 with ⟨_, e⟩ | ⟨e, _⟩
      · rw [g, e, hsd3]; exact hn2
      · rw [g, e, hsd3]; exact hn4
end Go.Proofs.YtgmbdadkahcpcaaDoor
/- Without inputs and shots both come to rest within 60 frames: the plain mathematics of P9.4. Nothing of the program. -/
namespace Go.Proofs.YtgmbdadkahcpcaaDoor
open Go.RowKit
set_option linter.unusedVariables false
set_option linter.unusedSimpArgs false

/-- How fast, behind a frame, who was that fast. -/
def dec (n : Nat) : Nat := if n - n / 8 < 8 then 0 else n - n / 8
theorem dec_mono {a b : Nat} (h : a ≤ b) : dec a ≤ dec b := by unfold dec; split <;> split <;> omega
theorem slow_dec (v : Int) (h : v.natAbs ≤ 1024) : (clV (slow v)).natAbs ≤ dec v.natAbs := by
  have hs : (slow v).natAbs = dec v.natAbs := by
    unfold slow dec
    rcases Int.le_total 0 v with h0 | h0
    · rw [Int.tdiv_eq_ediv_of_nonneg h0]
      split <;> split <;> omega
    · obtain ⟨u, hu⟩ : ∃ u : Int, v = -u := ⟨-v, by omega⟩
      subst hu
      rw [Int.neg_tdiv, Int.tdiv_eq_ediv_of_nonneg (by omega)]
      split <;> split <;> omega
  have hd : dec v.natAbs ≤ 1024 := by unfold dec; split <;> omega
  unfold clV
  split
  · omega
  · split <;> omega
def decs : Nat → Nat
  | 0 => 1024
  | k + 1 => dec (decs k)
theorem decs_le : ∀ k, decs k ≤ 1024
  | 0 => Nat.le_refl _
  | k + 1 => by have := decs_le k; unfold decs dec; split <;> omega
theorem decs_end : decs 60 = 0 := by decide +kernel
/-- A frame without inputs and shots. -/
theorem frame_none (r : Src) (s : St) (h : s.ss = []) (hp : 1 ≤ s.p.h) (hq : 1 ≤ s.q.h) :
    frame r s .none .none = { three { s with p := one s.p .none, q := one s.q .none } with fr := (s.fr + 1) % 18446744073709551616 } := by
  have h1 : ∀ (t : St) (k : Nat), fire t k Inp.none.f = t := fun t k => by unfold fire; rw [if_neg (by simp [Inp.none])]
  have h2 : ∀ t : St, t.ss = [] → four t = t := fun t e => by
    unfold four
    rw [e]
    cases t
    simp only at e
    subst e
    rfl
  have h3 : ∀ (t : St) (k : Nat), 1 ≤ (t.pl k).h → back r t k = t := fun t k e => by unfold back; exact if_pos e
  have h4 : (three { s with p := one s.p .none, q := one s.q .none }).ss = [] := by unfold three; split <;> exact h
  have h5 : 1 ≤ (three { s with p := one s.p .none, q := one s.q .none }).p.h := by unfold three; split <;> exact hp
  have h6 : 1 ≤ (three { s with p := one s.p .none, q := one s.q .none }).q.h := by unfold three; split <;> exact hq
  have h7 : (three { s with p := one s.p .none, q := one s.q .none }).fr = s.fr := by unfold three; split <;> rfl
  unfold frame
  simp only [h1]
  rw [h2 _ h4, h3 _ 0 h5, h3 _ 1 h6, h7]
theorem one_none (p : Pl) : one p .none = ⟨p.x, p.y, clV (slow p.vx), clV (slow p.vy), p.h, coolOf p.c, p.f⟩ := by
  simp [one, Inp.none, spd, faceOf]
/-- Who is no faster than n, and waits no longer than m. -/
structure Lazy (p : Pl) (n m : Nat) : Prop where
  vx : p.vx.natAbs ≤ n
  vy : p.vy.natAbs ≤ n
  c : p.c ≤ m
theorem one_lazy {p : Pl} {n m : Nat} (h : Lazy p n m) (hn : n ≤ 1024) : Lazy (one p .none) (dec n) (m - 1) := by
  rw [one_none]
  refine ⟨Nat.le_trans (slow_dec p.vx (by have := h.vx; omega)) (dec_mono h.vx), Nat.le_trans (slow_dec p.vy (by have := h.vy; omega)) (dec_mono h.vy), ?_⟩
  have := h.c
  simp only [coolOf]
  split <;> omega
theorem ite_abs {c : Prop} [Decidable c] {v : Int} {n : Nat} (h : v.natAbs ≤ n) : (if c then 0 else v).natAbs ≤ n := by
  split
  · simp
  · exact h
theorem three_lazy {s : St} {n m : Nat} (hp : Lazy s.p n m) (hq : Lazy s.q n m) : Lazy (three s).p n m ∧ Lazy (three s).q n m ∧ (three s).p.f = s.p.f ∧ (three s).q.f = s.q.f := by
  unfold three
  split
  · exact ⟨⟨by simp [haltP], by simp [haltP], hp.c⟩, ⟨by simp [haltP], by simp [haltP], hq.c⟩, rfl, rfl⟩
  · exact ⟨⟨ite_abs hp.vx, ite_abs hp.vy, hp.c⟩, ⟨ite_abs hq.vx, ite_abs hq.vy, hq.c⟩, rfl, rfl⟩
/-- So many frames without inputs. -/
def frames (r : Src) (s : St) : Nat → St
  | 0 => s
  | k + 1 => frame r (frames r s k) .none .none
theorem frames_says {r : Src} (hr : r.ok) {s : St} (h : s.good = true) (hf : s.fit) (hn : s.ss = []) : ∀ k, (frames r s k).good = true ∧ (frames r s k).fit ∧ (frames r s k).ss = [] ∧ (frames r s k).fr = (s.fr + k) % 18446744073709551616 ∧
    (frames r s k).p.h = s.p.h ∧ (frames r s k).q.h = s.q.h ∧ (frames r s k).p.f = s.p.f ∧ (frames r s k).q.f = s.q.f ∧ Lazy (frames r s k).p (decs k) (30 - k) ∧ Lazy (frames r s k).q (decs k) (30 - k)
  | 0 => by
    obtain ⟨o, _, _⟩ := st_ok_of h hf
    have hp := o.p
    have hq := o.q
    exact ⟨h, hf, hn, by rw [Nat.add_zero, Nat.mod_eq_of_lt hf.1]; rfl, rfl, rfl, rfl, rfl, ⟨by have := hp.vx; show _ ≤ 1024; simp only [frames]; omega, by have := hp.vy; show _ ≤ 1024; simp only [frames]; omega, by have := hp.c; simp only [frames]; omega⟩,
      ⟨by have := hq.vx; show _ ≤ 1024; simp only [frames]; omega, by have := hq.vy; show _ ≤ 1024; simp only [frames]; omega, by have := hq.c; simp only [frames]; omega⟩⟩
  | k + 1 => by
    obtain ⟨g, f, n, fr, a, b, c, d, lp, lq⟩ := frames_says hr h hf hn k
    obtain ⟨g2, f2, _⟩ := frame_right hr g f .none .none
    obtain ⟨ho, h1, h2⟩ := st_ok_of g f
    have e := frame_none r (frames r s k) n h1 h2
    have hl := decs_le k
    obtain ⟨z1, z2, z3, z4⟩ := three_lazy (s := { frames r s k with p := one (frames r s k).p .none, q := one (frames r s k).q .none }) (one_lazy lp hl) (one_lazy lq hl)
    have hss : (three { frames r s k with p := one (frames r s k).p .none, q := one (frames r s k).q .none }).ss = [] := by unfold three; split <;> exact n
    have hh : (three { frames r s k with p := one (frames r s k).p .none, q := one (frames r s k).q .none }).p.h = (frames r s k).p.h ∧ (three { frames r s k with p := one (frames r s k).p .none, q := one (frames r s k).q .none }).q.h = (frames r s k).q.h := by unfold three; split <;> exact ⟨rfl, rfl⟩
    have hfc : (one (frames r s k).p .none).f = (frames r s k).p.f ∧ (one (frames r s k).q .none).f = (frames r s k).q.f := by rw [one_none, one_none]; exact ⟨rfl, rfl⟩
    refine ⟨g2, f2, ?_, ?_, ?_, ?_, ?_, ?_, ?_, ?_⟩
    · show (frame r (frames r s k) .none .none).ss = []; rw [e]; exact hss
    · show (frame r (frames r s k) .none .none).fr = _; rw [e]; show ((frames r s k).fr + 1) % 18446744073709551616 = _; rw [fr]; omega
    · show (frame r (frames r s k) .none .none).p.h = _; rw [e, ← a]; exact hh.1
    · show (frame r (frames r s k) .none .none).q.h = _; rw [e, ← b]; exact hh.2
    · show (frame r (frames r s k) .none .none).p.f = _; rw [e, ← c, ← hfc.1]; exact z3
    · show (frame r (frames r s k) .none .none).q.f = _; rw [e, ← d, ← hfc.2]; exact z4
    · show Lazy (frame r (frames r s k) .none .none).p _ _; rw [e]; rw [show 30 - (k + 1) = 30 - k - 1 by omega]; exact z1
    · show Lazy (frame r (frames r s k) .none .none).q _ _; rw [e]; rw [show 30 - (k + 1) = 30 - k - 1 by omega]; exact z2
/-- P9.4. -/
theorem frames_rest {r : Src} (hr : r.ok) {s : St} (h : s.good = true) (hf : s.fit) (hn : s.ss = []) :
    (frames r s 60).p.vx = 0 ∧ (frames r s 60).p.vy = 0 ∧ (frames r s 60).p.c = 0 ∧ (frames r s 60).q.vx = 0 ∧ (frames r s 60).q.vy = 0 ∧ (frames r s 60).q.c = 0 ∧
    (frame r (frames r s 60) .none .none).p = (frames r s 60).p ∧ (frame r (frames r s 60) .none .none).q = (frames r s 60).q := by
  obtain ⟨g, f, n, _, _, _, _, _, lp, lq⟩ := frames_says hr h hf hn 60
  obtain ⟨ho, h1, h2⟩ := st_ok_of g f
  rw [decs_end] at lp lq
  generalize frames r s 60 = t at *
  have a1 : t.p.vx = 0 := by have := lp.vx; omega
  have a2 : t.p.vy = 0 := by have := lp.vy; omega
  have a3 : t.p.c = 0 := by have := lp.c; omega
  have b1 : t.q.vx = 0 := by have := lq.vx; omega
  have b2 : t.q.vy = 0 := by have := lq.vy; omega
  have b3 : t.q.c = 0 := by have := lq.c; omega
  have s0 : clV (slow 0) = 0 := by decide
  have ep : one t.p .none = t.p := by
    rw [one_none, a1, a2, s0, a3]
    rw [pl_eq]
    exact ⟨rfl, rfl, a1.symm, a2.symm, rfl, by rw [a3]; rfl, rfl⟩
  have eq' : one t.q .none = t.q := by
    rw [one_none, b1, b2, s0, b3]
    rw [pl_eq]
    exact ⟨rfl, rfl, b1.symm, b2.symm, rfl, by rw [b3]; rfl, rfl⟩
  have gp : goP t.p = t.p := by
    have hx := ho.p.x
    have hy := ho.p.y
    have e1 : cut0 (t.p.x + 0) 61440 = t.p.x := by unfold cut0; omega
    have e2 : cut0 (t.p.y + 0) 28672 = t.p.y := by unfold cut0; omega
    rw [pl_eq]
    simp only [goP, a1, a2, e1, e2]
    simp
  have gq : goP t.q = t.q := by
    have hx := ho.q.x
    have hy := ho.q.y
    have e1 : cut0 (t.q.x + 0) 61440 = t.q.x := by unfold cut0; omega
    have e2 : cut0 (t.q.y + 0) 28672 = t.q.y := by unfold cut0; omega
    rw [pl_eq]
    simp only [goP, b1, b2, e1, e2]
    simp
  have hp : haltP t.p = t.p := by rw [pl_eq]; exact ⟨rfl, rfl, a1.symm, a2.symm, rfl, rfl, rfl⟩
  have hq : haltP t.q = t.q := by rw [pl_eq]; exact ⟨rfl, rfl, b1.symm, b2.symm, rfl, rfl, rfl⟩
  have e := frame_none r t n h1 h2
  rw [ep, eq'] at e
  refine ⟨a1, a2, a3, b1, b2, b3, ?_, ?_⟩
  · rw [e]; unfold three; split
    · exact hp
    · exact gp
  · rw [e]; unfold three; split
    · exact hq
    · exact gq
end Go.Proofs.YtgmbdadkahcpcaaDoor
/- The source of layer 5 serves layer 9. Nothing of the program. -/
namespace Go.Proofs.YtgmbdadkahcpcaaDoor
open Go.RowKit
set_option linter.unusedVariables false

/-- The source: a number below n, of the number behind the seed; the seed behind it. -/
def src : Src := ⟨fun s n => bel (mx (skp s 1)) n, fun s => skp s 1⟩
theorem src_ok : src.ok where
  lt := fun s n h0 h => bel_lt mx_lt h0
  nxt := fun s => skp_lt s 1
  two := fun s hs => by
    show skp (skp s 1) 1 ≠ s
    rw [skp_skp]
    unfold skp
    omega
  four := fun s hs => by
    show skp (skp (skp (skp s 1) 1) 1) 1 ≠ s
    rw [skp_skp, skp_skp, skp_skp]
    unfold skp
    omega
end Go.Proofs.YtgmbdadkahcpcaaDoor
/- The document's frame, part by part: contracts. -/
namespace Go.Proofs.YtgmbdadkahcpcaaDoor
open Go.RowKit
set_option linter.unusedVariables false
set_option linter.unusedSimpArgs false

theorem speed_c (v d : Int) (dash : Bool) (w : World) (hv : -1024 ≤ v ∧ v ≤ 1024) (hd : -1 ≤ d ∧ d ≤ 1) :
    Calls Tryd.prog 74 #[.int .i32 v, .int .i32 d, .bool dash] w fun E w' => E = .returned (.int .i32 (spd v d dash)) ∧ w = w' := by
  obtain ⟨v1, v2⟩ := hv
  obtain ⟨d1, d2⟩ := hd
  obtain ⟨q, hq, hq1, hq2⟩ : ∃ q : Int, v.tdiv 8 = q ∧ (0 ≤ v → 8 * q ≤ v ∧ v < 8 * q + 8) ∧ (v < 0 → v ≤ 8 * q ∧ 8 * q < v + 8) := by
    refine ⟨v.tdiv 8, rfl, fun h => ?_, fun h => ?_⟩
    · rw [Int.tdiv_eq_ediv_of_nonneg h]; omega
    · obtain ⟨u, rfl⟩ : ∃ u : Int, v = -u := ⟨-v, by omega⟩
      rw [Int.neg_tdiv, Int.tdiv_eq_ediv_of_nonneg (by omega)]; omega
  have HS : Hid (∀ b, spd v d b = clV (if b = true then (if d = 0 then (if -8 < v - q ∧ v - q < 8 then 0 else v - q) else v + 64 * d) * 2 else if d = 0 then (if -8 < v - q ∧ v - q < 8 then 0 else v - q) else v + 64 * d)) := fun b => by
    unfold spd slow
    rw [hq]
  have e1 : wrap32 q = q := by unfold wrap32; omega
  by_cases h0 : d = 0
  · subst h0
    cases dash
    all_goals go_enter Tryd.func74, Tryd.ntmps74
    all_goals go_wp2
    all_goals go_ret
    all_goals refine ⟨congrArg (fun z => Ending.returned (.int .i32 z)) ?_, rfl⟩
    all_goals rw [HS.out]
    all_goals simp only [clV, if_true, Bool.false_eq_true, if_false]
    all_goals (repeat' split) <;> omega
  · have hne : (d != 0) = true := by simp [h0]
    have heq : (d == 0) = false := by simp [h0]
    cases dash
    all_goals go_enter Tryd.func74, Tryd.ntmps74
    all_goals go_wp2
    all_goals go_ret
    all_goals refine ⟨congrArg (fun z => Ending.returned (.int .i32 z)) ?_, rfl⟩
    all_goals rw [HS.out]
    all_goals simp only [clV, if_true, Bool.false_eq_true, if_false, h0]
    all_goals (repeat' split) <;> omega
end Go.Proofs.YtgmbdadkahcpcaaDoor
/- The document's frame: 1, of a player: its contract. -/
namespace Go.Proofs.YtgmbdadkahcpcaaDoor
open Go.RowKit
set_option linter.unusedVariables false
set_option linter.unusedSimpArgs false

/-- What an input's number says. -/
def inp (i : Nat) : Inp := ⟨I.against (I.bitb i 0) (I.bitb i 1), I.against (I.bitb i 2) (I.bitb i 3), I.bitb i 4, I.bitb i 5⟩
theorem against_in (a b : Bool) : -1 ≤ I.against a b ∧ I.against a b ≤ 1 := by cases a <;> cases b <;> decide
theorem inp_ok (i : Nat) : (inp i).ok := ⟨against_in _ _, against_in _ _⟩
/-- A player's cells. -/
abbrev pcs (p : Pl) : Array Value := #[.int .i32 p.x, .int .i32 p.y, .int .i32 p.vx, .int .i32 p.vy, .int .u8 (p.h : Int), .int .u8 (p.c : Int), .int .u8 (p.f : Int)]
theorem run_retP {W : World} {g : Nat} {cs : Array Value} (tmps : Array Value) (p : Tmp) (fn : Func) (hr : fn.results = #[.cell p 24]) (h : Cells W g 24 cs) (hs : cs.size = 7) (h2 : tmps.getD p undef = .pointer (some ⟨g, 0, none⟩)) :
    (results fn tmps).run Tryd.prog W = .ok (.agg cs) W := results_cell_row hr tmps W g _ cs (0, 0) _ h2 h Tryd.underlying24 rfl (by rw [hs]; exact info_PlSz)
/-- Where 1 stands: the player's block, the result's block. -/
structure OneK (w wi : World) (p : Pl) : Prop where
  pl : Cells wi w.heap.size 24 (pcs p)
  re : Cells wi (w.heap.size + 1) 24 #[.int .i32 0, .int .i32 0, .int .i32 0, .int .i32 0, .int .u8 0, .int .u8 0, .int .u8 0]
  be : Below w.heap.size w wi
theorem onek_set {w wi : World} {p p' : Pl} (h : OneK w wi p) (i : Nat) (v : Value) (e : (pcs p).setIfInBounds i v = pcs p') : OneK w (wi.setCell ⟨w.heap.size, i, none⟩ v) p' :=
  ⟨e ▸ h.pl.set i v, h.re.far (by show w.heap.size + 1 ≠ w.heap.size; omega) _, h.be.setCell (Nat.le_refl _) _⟩
attribute [local go_sem ↓] storeAt_pl
set_option maxHeartbeats 2000000 in
set_option maxRecDepth 20000 in
theorem one_c (p : Pl) (i : Nat) (w : World) (hi : i < 256) (hp : p.ok) :
    Calls Tryd.prog 49 #[pv p, .int .u8 (i : Int)] w fun E w' => E = .returned (pv (one p (inp i))) ∧ w.grownBy w' none := by
  have HK : Hid (OneK w ((w.alloc (.cells (pcs p) 24)).alloc (.cells #[.int .i32 0, .int .i32 0, .int .i32 0, .int .i32 0, .int .u8 0, .int .u8 0, .int .u8 0] 24)) p) :=
    ⟨(Cells.made w _ _).alloc _, by have := Cells.made (w.alloc (.cells (pcs p) 24)) 24 #[.int .i32 0, .int .i32 0, .int .i32 0, .int .i32 0, .int .u8 0, .int .u8 0, .int .u8 0]; rwa [show (w.alloc (.cells (pcs p) 24)).heap.size = w.heap.size + 1 by simp] at this, ((Below.refl _ w).alloc (Nat.le_refl _) _).alloc (by simp) _⟩
  have HP := Lib.hid hp
  have hin := inp_ok i
  obtain ⟨z, hz⟩ : ∃ z, z = inp i := ⟨_, rfl⟩
  have HD : Hid (∀ W, Calls Tryd.prog 72 #[.int .u8 (i : Int)] W fun E w' => E = .returned (.tuple #[.int .i32 z.x, .int .i32 z.y]) ∧ W = w') := fun W => by rw [hz]; exact I.refDir i W hi
  have HA : Hid (∀ W, Calls Tryd.prog 73 #[.int .u8 (i : Int)] W fun E w' => E = .returned (.bool z.d) ∧ W = w') := fun W => by rw [hz]; exact I.refDash i W hi
  rw [← hz] at hin ⊢
  have HIN := Lib.hid hin
  clear hp hin hz
  obtain ⟨Q, hQ⟩ : ∃ Q : Ending → World → Prop, Q = fun E w' => E = .returned (pv (one p z)) ∧ w.grownBy w' none := ⟨_, rfl⟩
  rw [← hQ]
  have HQ : Hid (∀ E w', E = .returned (pv (one p z)) ∧ w.grownBy w' none → Q E w') := fun E w' h => by rw [hQ]; exact h
  clear hQ
  unfold pv
  go_enter Tryd.func49, Tryd.ntmps49
  go_wp2_with fail
  refine (HD.out _).mono ?_
  rintro E w1 ⟨rfl, rfl⟩
  generalize (w.alloc (.cells (pcs p) 24)).alloc (.cells #[.int .i32 0, .int .i32 0, .int .i32 0, .int .i32 0, .int .u8 0, .int .u8 0, .int .u8 0] 24) = wa at *
  go_upto_region 2 with fail
  have c5 : wa.cell? ⟨w.heap.size, 5, none⟩ = some (.int .u8 (p.c : Int)) := by rw [HK.out.pl.cell]; rfl
  have f5 := HK.out.pl.frozen 5
  have hc30 := HP.out.c
  go_upto_if 15 with fail
  go_cut [] (fun wx => Hid (OneK w wx { p with c := coolOf p.c }))
  case first =>
    by_cases hc : 0 < p.c
    · have hci : (0 : Int) < (p.c : Int) := by omega
      have e1 : IntKind.u8.wrap ((p.c : Int) - 1) = ((p.c - 1 : Nat) : Int) := by simp [IntKind.wrap, IntKind.bits, IntKind.signed]; omega
      have HN : Hid (OneK w (wa.setCell ⟨w.heap.size, 5, none⟩ (.int .u8 ((p.c - 1 : Nat) : Int))) { p with c := coolOf p.c }) := onek_set HK.out 5 _ (by unfold coolOf; rw [if_pos hc]; rfl)
      go_wp2_with fail
      all_goals go_meet
      all_goals exact HN
    · have hci : ¬ (0 : Int) < (p.c : Int) := by omega
      have HN : Hid (OneK w wa { p with c := coolOf p.c }) := by
        have e : ({ p with c := coolOf p.c } : Pl) = p := by unfold coolOf; rw [if_neg hc]
        rw [e]; exact HK
      go_wp2_with fail
      all_goals go_meet
      all_goals exact HN
  case rest =>
  have HK1 := Lib.hid hcut.out
  clear hcut c5 f5 HK
  generalize wc = wb at *
  have c6 : wb.cell? ⟨w.heap.size, 6, none⟩ = some (.int .u8 (p.f : Int)) := by rw [HK1.out.pl.cell]; rfl
  have f6 := HK1.out.pl.frozen 6
  go_upto_if 21 with fail
  go_cut [] (fun wx => Hid (OneK w wx { p with c := coolOf p.c, f := faceOf z p.f }))
  case first =>
    have HS : Hid (∀ n : Nat, faceOf z p.f = n → Hid (OneK w (wb.setCell ⟨w.heap.size, 6, none⟩ (.int .u8 (n : Int))) { p with c := coolOf p.c, f := faceOf z p.f })) := fun n e => by rw [e]; exact onek_set HK1.out 6 _ rfl
    by_cases h1 : 0 < z.x
    · have HN := HS.out 0 (by unfold faceOf; rw [if_pos h1])
      rw [show ((0 : Nat) : Int) = 0 from rfl] at HN
      go_wp2_with fail
      all_goals go_meet
      all_goals exact HN
    · by_cases h2 : z.x < 0
      · have HN := HS.out 1 (by unfold faceOf; rw [if_neg h1, if_pos h2])
        rw [show ((1 : Nat) : Int) = 1 from rfl] at HN
        go_wp2_with fail
        all_goals go_meet
        all_goals exact HN
      · by_cases h3 : z.y < 0
        · have HN := HS.out 2 (by unfold faceOf; rw [if_neg h1, if_neg h2, if_pos h3])
          rw [show ((2 : Nat) : Int) = 2 from rfl] at HN
          go_wp2_with fail
          all_goals go_meet
          all_goals exact HN
        · by_cases h4 : 0 < z.y
          · have HN := HS.out 3 (by unfold faceOf; rw [if_neg h1, if_neg h2, if_neg h3, if_pos h4])
            rw [show ((3 : Nat) : Int) = 3 from rfl] at HN
            go_wp2_with fail
            all_goals go_meet
            all_goals exact HN
          · have HN : Hid (OneK w wb { p with c := coolOf p.c, f := faceOf z p.f }) := by
              have e : faceOf z p.f = p.f := by unfold faceOf; rw [if_neg h1, if_neg h2, if_neg h3, if_neg h4]
              rw [e]; exact HK1
            go_wp2_with fail
            all_goals go_meet
            all_goals exact HN
  case rest =>
  have HK2 := Lib.hid hcut.out
  clear hcut c6 f6 HK1
  generalize wc = wd at *
  obtain ⟨x1, x2⟩ := HIN.out.1
  obtain ⟨y1, y2⟩ := HIN.out.2
  have hvx := HP.out.vx
  have hvy := HP.out.vy
  obtain ⟨b, hb⟩ : ∃ b, b = (z.d && decide (coolOf p.c = 0)) := ⟨_, rfl⟩
  have HS1 : Hid (∀ W, Calls Tryd.prog 74 #[.int .i32 p.vx, .int .i32 z.x, .bool b] W fun E w' => E = .returned (.int .i32 (spd p.vx z.x b)) ∧ W = w') := fun W => speed_c p.vx z.x b W hvx ⟨x1, x2⟩
  have HS2 : Hid (∀ W, Calls Tryd.prog 74 #[.int .i32 p.vy, .int .i32 z.y, .bool b] W fun E w' => E = .returned (.int .i32 (spd p.vy z.y b)) ∧ W = w') := fun W => speed_c p.vy z.y b W hvy ⟨y1, y2⟩
  have HONE : Hid (one p z = ⟨p.x, p.y, spd p.vx z.x b, spd p.vy z.y b, p.h, if b = true then 30 else coolOf p.c, faceOf z p.f⟩) := by show _ = _; rw [hb]; rfl
  have HBB := Lib.hid hb
  clear hb x1 x2 y1 y2 hvx hvy hc30
  rw [HONE.out] at HQ
  generalize spd p.vx z.x b = v1 at *
  generalize spd p.vy z.y b = v2 at *
  generalize faceOf z p.f = fc at *
  generalize coolOf p.c = cc at *
  clear HONE
  have c2 : wd.cell? ⟨w.heap.size, 2, none⟩ = some (.int .i32 p.vx) := by rw [HK2.out.pl.cell]; rfl
  have c3 : wd.cell? ⟨w.heap.size, 3, none⟩ = some (.int .i32 p.vy) := by rw [HK2.out.pl.cell]; rfl
  have c5 : wd.cell? ⟨w.heap.size, 5, none⟩ = some (.int .u8 (cc : Int)) := by rw [HK2.out.pl.cell]; rfl
  go_upto_region 12 with fail
  go_cut [7] (fun s7 wx => s7 = .bool b ∧ wx = wd)
  case first =>
    go_wp2_with fail
    refine (HA.out _).mono ?_
    rintro E w3 ⟨rfl, rfl⟩
    cases hzd : z.d
    · rw [hzd] at HBB
      have hbf := HBB.out
      simp at hbf
      subst hbf
      go_wp2_with fail
      all_goals go_meet
      all_goals exact ⟨rfl, rfl⟩
    · rw [hzd] at HBB
      by_cases hc : cc = 0
      · have hbt : b = true := by rw [HBB.out, hc]; rfl
        subst hbt hc
        go_wp2_with fail
        all_goals go_meet
        all_goals exact ⟨rfl, rfl⟩
      · have hbf : b = false := by rw [HBB.out]; simp [hc]
        have hcb : ((cc : Int) == 0) = false := beq_eq_false_iff_ne.2 (by omega)
        subst hbf
        go_wp2_with fail
        all_goals go_meet
        all_goals exact ⟨rfl, rfl⟩
  case rest =>
  obtain ⟨rfl, rfl⟩ := hcut
  clear c5 HA HBB
  have f2 := HK2.out.pl.frozen 2
  go_wp2_with fail
  refine (HS1.out _).mono ?_
  rintro E w4 ⟨rfl, rfl⟩
  have HK3 : Hid (OneK w (wc.setCell ⟨w.heap.size, 2, none⟩ (.int .i32 v1)) { p with vx := v1, c := cc, f := fc }) := onek_set HK2.out 2 _ rfl
  go_upto_region 14 with fail
  clear c2 c3 f2 HK2
  generalize wc.setCell ⟨w.heap.size, 2, none⟩ (.int .i32 v1) = we at *
  have c3 : we.cell? ⟨w.heap.size, 3, none⟩ = some (.int .i32 p.vy) := by rw [HK3.out.pl.cell]; rfl
  have f3 := HK3.out.pl.frozen 3
  go_wp2_with fail
  refine (HS2.out _).mono ?_
  rintro E w5 ⟨rfl, rfl⟩
  have HK4 : Hid (OneK w (we.setCell ⟨w.heap.size, 3, none⟩ (.int .i32 v2)) { p with vx := v1, vy := v2, c := cc, f := fc }) := onek_set HK3.out 3 _ rfl
  go_upto_region 15 with fail
  clear c3 f3 HK3 HS1 HS2
  generalize we.setCell ⟨w.heap.size, 3, none⟩ (.int .i32 v2) = wf at *
  cases b
  · have HKz := HK4
    have g0 : wf.cell? ⟨w.heap.size, 0, none⟩ = some (.int .i32 p.x) := by rw [HKz.out.pl.cell]; rfl
    have g1 : wf.cell? ⟨w.heap.size, 1, none⟩ = some (.int .i32 p.y) := by rw [HKz.out.pl.cell]; rfl
    have g2 : wf.cell? ⟨w.heap.size, 2, none⟩ = some (.int .i32 v1) := by rw [HKz.out.pl.cell]; rfl
    have g3 : wf.cell? ⟨w.heap.size, 3, none⟩ = some (.int .i32 v2) := by rw [HKz.out.pl.cell]; rfl
    have g4 : wf.cell? ⟨w.heap.size, 4, none⟩ = some (.int .u8 (p.h : Int)) := by rw [HKz.out.pl.cell]; rfl
    have g5 : wf.cell? ⟨w.heap.size, 5, none⟩ = some (.int .u8 (cc : Int)) := by rw [HKz.out.pl.cell]; rfl
    have g6 : wf.cell? ⟨w.heap.size, 6, none⟩ = some (.int .u8 (fc : Int)) := by rw [HKz.out.pl.cell]; rfl
    obtain ⟨wq, hst, hwq, hgq⟩ : ∃ wq, (storePl (.pointer (some ⟨w.heap.size + 1, 0, none⟩)) (.agg #[.int .i32 p.x, .int .i32 p.y, .int .i32 v1, .int .i32 v2, .int .u8 (p.h : Int), .int .u8 (cc : Int), .int .u8 (fc : Int)])).run Tryd.prog wf = .ok () wq ∧ Cells wq (w.heap.size + 1) 24 #[.int .i32 p.x, .int .i32 p.y, .int .i32 v1, .int .i32 v2, .int .u8 (p.h : Int), .int .u8 (cc : Int), .int .u8 (fc : Int)] ∧ wf.grownBy wq (some (w.heap.size + 1)) :=
      ⟨_, run_storePl 0 HKz.out.re (by simp) rfl (by simp [Value.oneCell']), setRow_heap _ _ _ _ _ _ HKz.out.re, grown_setRow _ _ _⟩
    have hlz := Cells.lt HKz.out.re
    go_wp2
    refine bodyPost_ret (v := .agg #[.int .i32 p.x, .int .i32 p.y, .int .i32 v1, .int .i32 v2, .int .u8 (p.h : Int), .int .u8 (cc : Int), .int .u8 (fc : Int)]) ?_ rfl ?_
    · exact run_retP _ 4 _ Tryd.results49 hwq rfl rfl
    · exact HQ.out _ _ ⟨rfl, grown_of_below (HKz.out.be.trans (grown_nb hgq (fun q e => by cases e; omega) (by omega)))⟩
  · have f5 := HK4.out.pl.frozen 5
    have c5 : wf.cell? ⟨w.heap.size, 5, none⟩ = some (.int .u8 (cc : Int)) := by rw [HK4.out.pl.cell]; rfl
    have HKz : Hid (OneK w (wf.setCell ⟨w.heap.size, 5, none⟩ (.int .u8 30)) { p with vx := v1, vy := v2, c := 30, f := fc }) := onek_set HK4.out 5 _ rfl
    go_upto_region 17 with fail
    clear c5 f5 HK4
    generalize wf.setCell ⟨w.heap.size, 5, none⟩ (.int .u8 30) = wg at *
    have g0 : wg.cell? ⟨w.heap.size, 0, none⟩ = some (.int .i32 p.x) := by rw [HKz.out.pl.cell]; rfl
    have g1 : wg.cell? ⟨w.heap.size, 1, none⟩ = some (.int .i32 p.y) := by rw [HKz.out.pl.cell]; rfl
    have g2 : wg.cell? ⟨w.heap.size, 2, none⟩ = some (.int .i32 v1) := by rw [HKz.out.pl.cell]; rfl
    have g3 : wg.cell? ⟨w.heap.size, 3, none⟩ = some (.int .i32 v2) := by rw [HKz.out.pl.cell]; rfl
    have g4 : wg.cell? ⟨w.heap.size, 4, none⟩ = some (.int .u8 (p.h : Int)) := by rw [HKz.out.pl.cell]; rfl
    have g5 : wg.cell? ⟨w.heap.size, 5, none⟩ = some (.int .u8 30) := by rw [HKz.out.pl.cell]; rfl
    have g6 : wg.cell? ⟨w.heap.size, 6, none⟩ = some (.int .u8 (fc : Int)) := by rw [HKz.out.pl.cell]; rfl
    obtain ⟨wq, hst, hwq, hgq⟩ : ∃ wq, (storePl (.pointer (some ⟨w.heap.size + 1, 0, none⟩)) (.agg #[.int .i32 p.x, .int .i32 p.y, .int .i32 v1, .int .i32 v2, .int .u8 (p.h : Int), .int .u8 30, .int .u8 (fc : Int)])).run Tryd.prog wg = .ok () wq ∧ Cells wq (w.heap.size + 1) 24 #[.int .i32 p.x, .int .i32 p.y, .int .i32 v1, .int .i32 v2, .int .u8 (p.h : Int), .int .u8 30, .int .u8 (fc : Int)] ∧ wg.grownBy wq (some (w.heap.size + 1)) :=
      ⟨_, run_storePl 0 HKz.out.re (by simp) rfl (by simp [Value.oneCell']), setRow_heap _ _ _ _ _ _ HKz.out.re, grown_setRow _ _ _⟩
    have hlz := Cells.lt HKz.out.re
    go_wp2
    refine bodyPost_ret (v := .agg #[.int .i32 p.x, .int .i32 p.y, .int .i32 v1, .int .i32 v2, .int .u8 (p.h : Int), .int .u8 30, .int .u8 (fc : Int)]) ?_ rfl ?_
    · exact run_retP _ 4 _ Tryd.results49 hwq rfl rfl
    · exact HQ.out _ _ ⟨rfl, grown_of_below (HKz.out.be.trans (grown_nb hgq (fun q e => by cases e; omega) (by omega)))⟩
end Go.Proofs.YtgmbdadkahcpcaaDoor
/- The document's frame: a player's box: its contract. -/
namespace Go.Proofs.YtgmbdadkahcpcaaDoor
open Go.RowKit
set_option linter.unusedVariables false
set_option linter.unusedSimpArgs false

theorem refBox (p : Pl) (w : World) :
    Calls Tryd.prog 78 #[pv p] w fun E w' => E = .returned (.agg #[.int .i32 p.x, .int .i32 p.y, .int .i32 4096, .int .i32 4096]) ∧ Below w.heap.size w w' := by
  obtain ⟨wa, hwa⟩ : ∃ wa, wa = (w.alloc (.cells #[.int .i32 p.x, .int .i32 p.y, .int .i32 p.vx, .int .i32 p.vy, .int .u8 (p.h : Int), .int .u8 (p.c : Int), .int .u8 (p.f : Int)] 24)).alloc (.cells #[.int .i32 0, .int .i32 0, .int .i32 0, .int .i32 0] 99) := ⟨_, rfl⟩
  have HB : Hid (Below w.heap.size w wa) := by rw [hwa]; exact ((Below.refl _ w).alloc (Nat.le_refl _) _).alloc (by simp) _
  have HP : Hid (Cells wa w.heap.size 24 #[.int .i32 p.x, .int .i32 p.y, .int .i32 p.vx, .int .i32 p.vy, .int .u8 (p.h : Int), .int .u8 (p.c : Int), .int .u8 (p.f : Int)]) := by rw [hwa]; exact (Cells.made w _ _).alloc _
  have HX : Hid (Cells wa (w.heap.size + 1) 99 #[.int .i32 0, .int .i32 0, .int .i32 0, .int .i32 0]) := by
    have := Cells.made (w.alloc (.cells #[.int .i32 p.x, .int .i32 p.y, .int .i32 p.vx, .int .i32 p.vy, .int .u8 (p.h : Int), .int .u8 (p.c : Int), .int .u8 (p.f : Int)] 24)) 99 #[.int .i32 0, .int .i32 0, .int .i32 0, .int .i32 0]
    rw [hwa]; rwa [show (w.alloc (.cells #[.int .i32 p.x, .int .i32 p.y, .int .i32 p.vx, .int .i32 p.vy, .int .u8 (p.h : Int), .int .u8 (p.c : Int), .int .u8 (p.f : Int)] 24)).heap.size = w.heap.size + 1 by simp] at this
  obtain ⟨Q, hQ⟩ : ∃ Q : Ending → World → Prop, Q = fun E w' => E = .returned (.agg #[.int .i32 p.x, .int .i32 p.y, .int .i32 4096, .int .i32 4096]) ∧ Below w.heap.size w w' := ⟨_, rfl⟩
  rw [← hQ]
  have HQ : Hid (∀ w', Below w.heap.size w w' → Q (.returned (.agg #[.int .i32 p.x, .int .i32 p.y, .int .i32 4096, .int .i32 4096])) w') := fun w' h => by rw [hQ]; exact ⟨rfl, h⟩
  clear hQ
  unfold pv
  go_enter Tryd.func78, Tryd.ntmps78
  go_upto_region 1 with fail
  generalize (w.alloc (.cells #[.int .i32 p.x, .int .i32 p.y, .int .i32 p.vx, .int .i32 p.vy, .int .u8 (p.h : Int), .int .u8 (p.c : Int), .int .u8 (p.f : Int)] 24)).alloc (.cells #[.int .i32 0, .int .i32 0, .int .i32 0, .int .i32 0] 99) = wb at *
  subst hwa
  have p0 := G.cellAt HP.out 0 rfl
  have p1 := G.cellAt HP.out 1 rfl
  have c0 := HX.out
  have z0 := c0.frozen 0
  have k0 := G.cellAt c0 0 rfl
  have c1 := c0.set 0 (.int .i32 p.x)
  have z1 := c1.frozen 1
  have k1 := G.cellAt c1 1 rfl
  have c2 := c1.set 1 (.int .i32 p.y)
  have z2 := c2.frozen 2
  have k2 := G.cellAt c2 2 rfl
  have c3 := c2.set 2 (.int .i32 4096)
  have z3 := c3.frozen 3
  have k3 := G.cellAt c3 3 rfl
  have c4 := c3.set 3 (.int .i32 4096)
  have j0 := G.cellAt c4 0 rfl
  have j1 := G.cellAt c4 1 rfl
  have j2 := G.cellAt c4 2 rfl
  have j3 := G.cellAt c4 3 rfl
  clear c0 c1 c2 c3 c4
  go_wp2
  refine bodyPost_ret (v := .agg #[.int .i32 p.x, .int .i32 p.y, .int .i32 4096, .int .i32 4096]) (by simp [results, Tryd.results78, go_sem, j0, j1, j2, j3]) rfl ?_
  exact HQ.out _ ((((HB.out.setCell (by show _ ≤ w.heap.size + 1; omega) _).setCell (by show _ ≤ w.heap.size + 1; omega) _).setCell (by show _ ≤ w.heap.size + 1; omega) _).setCell (by show _ ≤ w.heap.size + 1; omega) _)
end Go.Proofs.YtgmbdadkahcpcaaDoor
/- The document's frame: 5, of a player: its contract. -/
namespace Go.Proofs.YtgmbdadkahcpcaaDoor
open Go.RowKit
set_option linter.unusedVariables false
set_option linter.unusedSimpArgs false

/-- Where 5 stands: the state's block, the result's block. -/
structure FivK (w wi : World) (s : St) (ao : Option Addr) (cap : Nat) : Prop where
  st : Bk wi w.heap.size s ao cap
  re : Cells wi (w.heap.size + 1) 30 #[.int .u64 0, .int .u64 0, .int .i32 0, .int .i32 0, .int .i32 0, .int .i32 0, .int .u8 0, .int .u8 0, .int .u8 0, .int .i32 0, .int .i32 0, .int .i32 0, .int .i32 0, .int .u8 0, .int .u8 0, .int .u8 0, .slice none 0 0, .int .u16 0, .int .u16 0]
  be : Below w.heap.size w wi
theorem fivk_made (w : World) (s : St) (ao : Option Addr) (cap : Nat) : FivK w ((w.alloc (.cells (stc s ao cap) 30)).alloc (.cells #[.int .u64 0, .int .u64 0, .int .i32 0, .int .i32 0, .int .i32 0, .int .i32 0, .int .u8 0, .int .u8 0, .int .u8 0, .int .i32 0, .int .i32 0, .int .i32 0, .int .i32 0, .int .u8 0, .int .u8 0, .int .u8 0, .slice none 0 0, .int .u16 0, .int .u16 0] 30)) s ao cap :=
  ⟨(Cells.made w _ _).alloc _, by have := Cells.made (w.alloc (.cells (stc s ao cap) 30)) 30 #[.int .u64 0, .int .u64 0, .int .i32 0, .int .i32 0, .int .i32 0, .int .i32 0, .int .u8 0, .int .u8 0, .int .u8 0, .int .i32 0, .int .i32 0, .int .i32 0, .int .i32 0, .int .u8 0, .int .u8 0, .int .u8 0, .slice none 0 0, .int .u16 0, .int .u16 0]; rwa [show (w.alloc (.cells (stc s ao cap) 30)).heap.size = w.heap.size + 1 by simp] at this, ((Below.refl _ w).alloc (Nat.le_refl _) _).alloc (by simp) _⟩
/-- Where 5 stands behind its player's block. -/
structure FivD (w wi : World) (s : St) (ao : Option Addr) (cap : Nat) (p : Pl) : Prop where
  st : Bk wi w.heap.size s ao cap
  re : Cells wi (w.heap.size + 1) 30 #[.int .u64 0, .int .u64 0, .int .i32 0, .int .i32 0, .int .i32 0, .int .i32 0, .int .u8 0, .int .u8 0, .int .u8 0, .int .i32 0, .int .i32 0, .int .i32 0, .int .i32 0, .int .u8 0, .int .u8 0, .int .u8 0, .slice none 0 0, .int .u16 0, .int .u16 0]
  pl : Cells wi (w.heap.size + 2) 24 (pcs p)
  sz : wi.heap.size = w.heap.size + 3
  be : Below w.heap.size w wi
theorem fivd_made {w wi : World} {s : St} {ao : Option Addr} {cap : Nat} (h : FivK w wi s ao cap) (hs : wi.heap.size = w.heap.size + 2) (p : Pl) : FivD w (wi.alloc (.cells (pcs p) 24)) s ao cap p :=
  ⟨Cells.alloc h.st _, h.re.alloc _, by have := Cells.made wi 24 (pcs p); rwa [hs] at this, by simp [hs], h.be.alloc (by omega) _⟩
theorem fivd_set {w wi : World} {s : St} {ao : Option Addr} {cap : Nat} {p p' : Pl} (h : FivD w wi s ao cap p) (i : Nat) (v : Value) (e : (pcs p).setIfInBounds i v = pcs p') : FivD w (wi.setCell ⟨w.heap.size + 2, i, none⟩ v) s ao cap p' :=
  ⟨Cells.far h.st (by show w.heap.size ≠ w.heap.size + 2; omega) _, h.re.far (by show w.heap.size + 1 ≠ w.heap.size + 2; omega) _, e ▸ h.pl.set i v, by simp [h.sz], h.be.setCell (by show w.heap.size ≤ w.heap.size + 2; omega) _⟩
theorem fivd_seed {w wi : World} {s : St} {ao : Option Addr} {cap : Nat} {p : Pl} (h : FivD w wi s ao cap p) (n : Nat) : FivD w (wi.setCell ⟨w.heap.size, 1, none⟩ (.int .u64 (n : Int))) { s with sd := n } ao cap p :=
  ⟨Cells.set h.st 1 _, h.re.far (by show w.heap.size + 1 ≠ w.heap.size; omega) _, h.pl.far (by show w.heap.size + 2 ≠ w.heap.size; omega) _, by simp [h.sz], h.be.setCell (Nat.le_refl _) _⟩
/-- Where 5 stands behind its second player's block. -/
structure FivE (w wi : World) (s : St) (ao : Option Addr) (cap : Nat) (p q : Pl) : Prop where
  st : Bk wi w.heap.size s ao cap
  re : Cells wi (w.heap.size + 1) 30 #[.int .u64 0, .int .u64 0, .int .i32 0, .int .i32 0, .int .i32 0, .int .i32 0, .int .u8 0, .int .u8 0, .int .u8 0, .int .i32 0, .int .i32 0, .int .i32 0, .int .i32 0, .int .u8 0, .int .u8 0, .int .u8 0, .slice none 0 0, .int .u16 0, .int .u16 0]
  pl : Cells wi (w.heap.size + 2) 24 (pcs p)
  ql : Cells wi (w.heap.size + 3) 24 (pcs q)
  be : Below w.heap.size w wi
theorem five_made {w wi : World} {s : St} {ao : Option Addr} {cap : Nat} {p : Pl} (h : FivD w wi s ao cap p) (q : Pl) : FivE w (wi.alloc (.cells (pcs q) 24)) s ao cap p q :=
  ⟨Cells.alloc h.st _, h.re.alloc _, h.pl.alloc _, by have := Cells.made wi 24 (pcs q); rwa [h.sz] at this, h.be.alloc (by have := h.sz; omega) _⟩
theorem five_set {w wi : World} {s : St} {ao : Option Addr} {cap : Nat} {p q q' : Pl} (h : FivE w wi s ao cap p q) (i : Nat) (v : Value) (e : (pcs q).setIfInBounds i v = pcs q') : FivE w (wi.setCell ⟨w.heap.size + 3, i, none⟩ v) s ao cap p q' :=
  ⟨Cells.far h.st (by show w.heap.size ≠ w.heap.size + 3; omega) _, h.re.far (by show w.heap.size + 1 ≠ w.heap.size + 3; omega) _, h.pl.far (by show w.heap.size + 2 ≠ w.heap.size + 3; omega) _, e ▸ h.ql.set i v, h.be.setCell (by show w.heap.size ≤ w.heap.size + 3; omega) _⟩
theorem five_below {w wi wj : World} {s : St} {ao : Option Addr} {cap : Nat} {p q : Pl} (h : FivE w wi s ao cap p q) (hb : Below wi.heap.size wi wj) : FivE w wj s ao cap p q :=
  ⟨Cells.below h.st hb (Cells.lt h.st), h.re.below hb h.re.lt, h.pl.below hb h.pl.lt, h.ql.below hb h.ql.lt, h.be.trans (hb.mono h.be.size)⟩
theorem five_row0 {w wi : World} {s : St} {ao : Option Addr} {cap : Nat} {p q : Pl} (h : FivE w wi s ao cap p q) (r : Pl) : Hid (FivE w (wi.setRow w.heap.size ((stc s ao cap).toList.take 2 ++ (pcs r).toList ++ (stc s ao cap).toList.drop (2 + 7)).toArray) { s with p := r } ao cap p q) :=
  ⟨setRow_heap _ _ _ _ _ _ h.st, cells_far h.re (by omega) _, cells_far h.pl (by omega) _, cells_far h.ql (by omega) _, below_setRow h.be (Nat.le_refl _) _⟩
theorem five_row1 {w wi : World} {s : St} {ao : Option Addr} {cap : Nat} {p q : Pl} (h : FivE w wi s ao cap p q) (r : Pl) : Hid (FivE w (wi.setRow w.heap.size ((stc s ao cap).toList.take 9 ++ (pcs r).toList ++ (stc s ao cap).toList.drop (9 + 7)).toArray) { s with q := r } ao cap p q) :=
  ⟨setRow_heap _ _ _ _ _ _ h.st, cells_far h.re (by omega) _, cells_far h.pl (by omega) _, cells_far h.ql (by omega) _, below_setRow h.be (Nat.le_refl _) _⟩
theorem ovr_box (p q : Pl) : G.ovr ⟨p.x, p.y, 4096, 4096⟩ ⟨q.x, q.y, 4096, 4096⟩ = decide (OvP p q) := by
  unfold G.ovr
  exact decide_eq_decide.2 ⟨fun h => h.2, fun h => ⟨⟨by show (0 : Int) < 4096; decide, by show (0 : Int) < 4096; decide, by show (0 : Int) < 4096; decide, by show (0 : Int) < 4096; decide⟩, h⟩⟩
theorem box_in : G.in32 4096 := ⟨by decide, by decide⟩
attribute [local go_sem ↓] loadAt_state storeAt_state storeAt_pl
attribute [local go_sem] run_loadState run_storeOk run_storePlNew Value.oneCell'
set_option maxHeartbeats 2000000 in
set_option maxRecDepth 20000 in
theorem five0_alive (s : St) (ao : Option Addr) (cap : Nat) (w : World) (hh : 0 < s.p.h) :
    Calls Tryd.prog 53 #[sv s ao cap, .int .i64 0] w fun E w' => E = .returned (sv s ao cap) ∧ Below w.heap.size w w' := by
  obtain ⟨wa, hwa⟩ : ∃ wa, wa = (w.alloc (.cells (stc s ao cap) 30)).alloc (.cells #[.int .u64 0, .int .u64 0, .int .i32 0, .int .i32 0, .int .i32 0, .int .i32 0, .int .u8 0, .int .u8 0, .int .u8 0, .int .i32 0, .int .i32 0, .int .i32 0, .int .i32 0, .int .u8 0, .int .u8 0, .int .u8 0, .slice none 0 0, .int .u16 0, .int .u16 0] 30) := ⟨_, rfl⟩
  have HK : Hid (FivK w wa s ao cap) := by rw [hwa]; exact fivk_made w s ao cap
  obtain ⟨Q, hQ⟩ : ∃ Q : Ending → World → Prop, Q = fun E w' => E = .returned (sv s ao cap) ∧ Below w.heap.size w w' := ⟨_, rfl⟩
  rw [← hQ]
  have HQ : Hid (∀ w', Below w.heap.size w w' → Q (.returned (sv s ao cap)) w') := fun w' h => by rw [hQ]; exact ⟨rfl, h⟩
  clear hQ
  go_enter Tryd.func53, Tryd.ntmps53
  go_upto_region 1 with fail
  generalize (w.alloc (.cells (stc s ao cap) 30)).alloc (.cells #[.int .u64 0, .int .u64 0, .int .i32 0, .int .i32 0, .int .i32 0, .int .i32 0, .int .u8 0, .int .u8 0, .int .u8 0, .int .i32 0, .int .i32 0, .int .i32 0, .int .i32 0, .int .u8 0, .int .u8 0, .int .u8 0, .slice none 0 0, .int .u16 0, .int .u16 0] 30) = wb at *
  subst hwa
  have c4 : wa.cell? ⟨w.heap.size, 6, none⟩ = some (.int .u8 (s.p.h : Int)) := HK.out.st.of 6 _ rfl
  have hhi : (0 : Int) < (s.p.h : Int) := by omega
  have hrow := rowOf_cells HK.out.st
  have hsz : (rowOf wa w.heap.size).size = 19 := by rw [hrow]; rfl
  have hok : okRow wa (w.heap.size + 1) := ⟨_, _, HK.out.re, rfl⟩
  go_wp2
  refine bodyPost_ret (v := sv s ao cap) ?_ rfl ?_
  · exact ret_state _ 4 _ Tryd.results53 (bk_setRow HK.out.re s ao cap) rfl rfl
  · exact HQ.out _ (below_setRow HK.out.be (Nat.le_succ _) _)
set_option maxHeartbeats 2000000 in
set_option maxRecDepth 20000 in
theorem five0_dead (s : St) (ao : Option Addr) (cap : Nat) (w : World) (hh : s.p.h = 0) (hsd : s.sd < 18446744073709551616) (hox : G.in32 s.q.x) (hoy : G.in32 s.q.y) :
    Calls Tryd.prog 53 #[sv s ao cap, .int .i64 0] w fun E w' => E = .returned (sv (back src s 0) ao cap) ∧ Below w.heap.size w w' := by
  obtain ⟨wa, hwa⟩ : ∃ wa, wa = (w.alloc (.cells (stc s ao cap) 30)).alloc (.cells #[.int .u64 0, .int .u64 0, .int .i32 0, .int .i32 0, .int .i32 0, .int .i32 0, .int .u8 0, .int .u8 0, .int .u8 0, .int .i32 0, .int .i32 0, .int .i32 0, .int .i32 0, .int .u8 0, .int .u8 0, .int .u8 0, .slice none 0 0, .int .u16 0, .int .u16 0] 30) := ⟨_, rfl⟩
  have HK : Hid (FivK w wa s ao cap) := by rw [hwa]; exact fivk_made w s ao cap
  have hsw : wa.heap.size = w.heap.size + 2 := by rw [hwa]; simp
  obtain ⟨Q, hQ⟩ : ∃ Q : Ending → World → Prop, Q = fun E w' => E = .returned (sv (back src s 0) ao cap) ∧ Below w.heap.size w w' := ⟨_, rfl⟩
  rw [← hQ]
  have HQ : Hid (∀ w', Below w.heap.size w w' → Q (.returned (sv (back src s 0) ao cap)) w') := fun w' h => by rw [hQ]; exact ⟨rfl, h⟩
  clear hQ
  go_enter Tryd.func53, Tryd.ntmps53
  go_upto_region 1 with fail
  generalize (w.alloc (.cells (stc s ao cap) 30)).alloc (.cells #[.int .u64 0, .int .u64 0, .int .i32 0, .int .i32 0, .int .i32 0, .int .i32 0, .int .u8 0, .int .u8 0, .int .u8 0, .int .i32 0, .int .i32 0, .int .i32 0, .int .i32 0, .int .u8 0, .int .u8 0, .int .u8 0, .slice none 0 0, .int .u16 0, .int .u16 0] 30) = wb at *
  subst hwa
  have c4 : wa.cell? ⟨w.heap.size, 6, none⟩ = some (.int .u8 0) := (HK.out.st.of 6 _ rfl).trans (by show some (Value.int .u8 (s.p.h : Int)) = _; rw [hh]; rfl)
  have q0 : wa.cell? ⟨w.heap.size, 2, none⟩ = some (.int .i32 s.p.x) := HK.out.st.of 2 _ rfl
  have q1 : wa.cell? ⟨w.heap.size, 3, none⟩ = some (.int .i32 s.p.y) := HK.out.st.of 3 _ rfl
  have q2 : wa.cell? ⟨w.heap.size, 4, none⟩ = some (.int .i32 s.p.vx) := HK.out.st.of 4 _ rfl
  have q3 : wa.cell? ⟨w.heap.size, 5, none⟩ = some (.int .i32 s.p.vy) := HK.out.st.of 5 _ rfl
  have q5 : wa.cell? ⟨w.heap.size, 7, none⟩ = some (.int .u8 (s.p.c : Int)) := HK.out.st.of 7 _ rfl
  have q6 : wa.cell? ⟨w.heap.size, 8, none⟩ = some (.int .u8 (s.p.f : Int)) := HK.out.st.of 8 _ rfl
  go_upto_region 4 with fail
  have HD : Hid (FivD w (wa.alloc (.cells #[.int .i32 s.p.x, .int .i32 s.p.y, .int .i32 s.p.vx, .int .i32 s.p.vy, .int .u8 0, .int .u8 (s.p.c : Int), .int .u8 (s.p.f : Int)] 24)) s ao cap ⟨s.p.x, s.p.y, s.p.vx, s.p.vy, 0, s.p.c, s.p.f⟩) := fivd_made HK.out hsw ⟨s.p.x, s.p.y, s.p.vx, s.p.vy, 0, s.p.c, s.p.f⟩
  generalize wa.alloc (.cells #[.int .i32 s.p.x, .int .i32 s.p.y, .int .i32 s.p.vx, .int .i32 s.p.vy, .int .u8 0, .int .u8 (s.p.c : Int), .int .u8 (s.p.f : Int)] 24) = wb at *
  clear c4 q0 q1 q2 q3 q5 q6 HK hsw
  have c0 := HD.out.pl
  have z4 := c0.frozen 4
  have k4 : wb.cell? ⟨w.heap.size + 2, 4, none⟩ = some (.int .u8 0) := G.cellAt c0 4 rfl
  have c1 := c0.set 4 (.int .u8 100)
  have z2 := c1.frozen 2
  have k2 : (wb.setCell ⟨w.heap.size + 2, 4, none⟩ (.int .u8 100)).cell? ⟨w.heap.size + 2, 2, none⟩ = some (.int .i32 s.p.vx) := G.cellAt c1 2 rfl
  have c2 := c1.set 2 (.int .i32 0)
  have z3 := c2.frozen 3
  have k3 : ((wb.setCell ⟨w.heap.size + 2, 4, none⟩ (.int .u8 100)).setCell ⟨w.heap.size + 2, 2, none⟩ (.int .i32 0)).cell? ⟨w.heap.size + 2, 3, none⟩ = some (.int .i32 s.p.vy) := G.cellAt c2 3 rfl
  clear c0 c1 c2
  have HE : Hid (FivD w (((wb.setCell ⟨w.heap.size + 2, 4, none⟩ (.int .u8 100)).setCell ⟨w.heap.size + 2, 2, none⟩ (.int .i32 0)).setCell ⟨w.heap.size + 2, 3, none⟩ (.int .i32 0)) s ao cap ⟨s.p.x, s.p.y, 0, 0, 100, s.p.c, s.p.f⟩) :=
    fivd_set (fivd_set (fivd_set HD.out (p' := ⟨s.p.x, s.p.y, s.p.vx, s.p.vy, 100, s.p.c, s.p.f⟩) 4 (.int .u8 100) rfl) (p' := ⟨s.p.x, s.p.y, 0, s.p.vy, 100, s.p.c, s.p.f⟩) 2 (.int .i32 0) rfl) 3 (.int .i32 0) rfl
  go_upto_region 7 with fail
  generalize ((wb.setCell ⟨w.heap.size + 2, 4, none⟩ (.int .u8 100)).setCell ⟨w.heap.size + 2, 2, none⟩ (.int .i32 0)).setCell ⟨w.heap.size + 2, 3, none⟩ (.int .i32 0) = wc at *
  clear k4 z4 k2 z2 k3 z3 HD
  have ks : wc.cell? ⟨w.heap.size, 1, none⟩ = some (.int .u64 (s.sd : Int)) := HE.out.st.of 1 _ rfl
  have B1 := Lib.hid (R.refBelow_many s.sd 61441 wc (by decide) (by decide) hsd)
  have B2 := Lib.hid (R.refBelow_many (skp s.sd 1) 28673 wc (by decide) (by decide) (skp_lt s.sd 1))
  go_wp2_with fail
  refine B1.out.mono ?_
  rintro E w3 ⟨rfl, rfl⟩
  go_wp2_with fail
  refine B2.out.mono ?_
  rintro E w4 ⟨rfl, rfl⟩
  clear B1 B2
  have f1 := Cells.frozen HE.out.st 1
  have HF : Hid (FivD w (wc.setCell ⟨w.heap.size, 1, none⟩ (.int .u64 ((skp (skp s.sd 1) 1 : Nat) : Int))) { s with sd := skp (skp s.sd 1) 1 } ao cap ⟨s.p.x, s.p.y, 0, 0, 100, s.p.c, s.p.f⟩) := fivd_seed HE.out _
  have HBK : Hid (back src s 0 = { s with p := if OvP ⟨(R.bl s.sd 61441 : Nat), (R.bl (skp s.sd 1) 28673 : Nat), 0, 0, 100, s.p.c, s.p.f⟩ s.q then ⟨s.p.x, s.p.y, 0, 0, 100, s.p.c, s.p.f⟩ else ⟨(R.bl s.sd 61441 : Nat), (R.bl (skp s.sd 1) 28673 : Nat), 0, 0, 100, s.p.c, s.p.f⟩, sd := skp (skp s.sd 1) 1 }) := by
    show _ = _
    rw [back, if_neg (by show ¬ 0 < s.p.h; omega)]
    rfl
  have hl1 : R.bl s.sd 61441 < 61441 := bel_lt mx_lt (by decide)
  have hl2 : R.bl (skp s.sd 1) 28673 < 28673 := bel_lt mx_lt (by decide)
  rw [HBK.out] at HQ
  clear HBK
  go_upto_region 10 with fail
  generalize wc.setCell ⟨w.heap.size, 1, none⟩ (.int .u64 ((skp (skp s.sd 1) 1 : Nat) : Int)) = wd at *
  clear ks f1 HE
  generalize R.bl s.sd 61441 = n1 at *
  generalize R.bl (skp s.sd 1) 28673 = n2 at *
  generalize skp (skp s.sd 1) 1 = u at *
  have p0 : wd.cell? ⟨w.heap.size + 2, 0, none⟩ = some (.int .i32 s.p.x) := G.cellAt HF.out.pl 0 rfl
  have p1 : wd.cell? ⟨w.heap.size + 2, 1, none⟩ = some (.int .i32 s.p.y) := G.cellAt HF.out.pl 1 rfl
  have p2 : wd.cell? ⟨w.heap.size + 2, 2, none⟩ = some (.int .i32 0) := G.cellAt HF.out.pl 2 rfl
  have p3 : wd.cell? ⟨w.heap.size + 2, 3, none⟩ = some (.int .i32 0) := G.cellAt HF.out.pl 3 rfl
  have p4 : wd.cell? ⟨w.heap.size + 2, 4, none⟩ = some (.int .u8 100) := G.cellAt HF.out.pl 4 rfl
  have p5 : wd.cell? ⟨w.heap.size + 2, 5, none⟩ = some (.int .u8 (s.p.c : Int)) := G.cellAt HF.out.pl 5 rfl
  have p6 : wd.cell? ⟨w.heap.size + 2, 6, none⟩ = some (.int .u8 (s.p.f : Int)) := G.cellAt HF.out.pl 6 rfl
  have hsw := HF.out.sz
  go_upto_region 11 with fail
  have HG : Hid (FivE w (wd.alloc (.cells #[.int .i32 s.p.x, .int .i32 s.p.y, .int .i32 0, .int .i32 0, .int .u8 100, .int .u8 (s.p.c : Int), .int .u8 (s.p.f : Int)] 24)) { s with sd := u } ao cap ⟨s.p.x, s.p.y, 0, 0, 100, s.p.c, s.p.f⟩ ⟨s.p.x, s.p.y, 0, 0, 100, s.p.c, s.p.f⟩) := five_made HF.out ⟨s.p.x, s.p.y, 0, 0, 100, s.p.c, s.p.f⟩
  generalize wd.alloc (.cells #[.int .i32 s.p.x, .int .i32 s.p.y, .int .i32 0, .int .i32 0, .int .u8 100, .int .u8 (s.p.c : Int), .int .u8 (s.p.f : Int)] 24) = we at *
  clear p0 p1 p2 p3 p4 p5 p6 HF hsw
  have c0 := HG.out.ql
  have z0 := c0.frozen 0
  have k0 : we.cell? ⟨w.heap.size + 3, 0, none⟩ = some (.int .i32 s.p.x) := G.cellAt c0 0 rfl
  have c1 := c0.set 0 (.int .i32 (n1 : Int))
  have z1 := c1.frozen 1
  have k1 : (we.setCell ⟨w.heap.size + 3, 0, none⟩ (.int .i32 (n1 : Int))).cell? ⟨w.heap.size + 3, 1, none⟩ = some (.int .i32 s.p.y) := G.cellAt c1 1 rfl
  clear c0 c1
  have hw1 : IntKind.i32.wrap (n1 : Int) = (n1 : Int) := by simp [IntKind.wrap, IntKind.bits, IntKind.signed]; omega
  have hw2 : IntKind.i32.wrap (n2 : Int) = (n2 : Int) := by simp [IntKind.wrap, IntKind.bits, IntKind.signed]; omega
  have HH : Hid (FivE w ((we.setCell ⟨w.heap.size + 3, 0, none⟩ (.int .i32 (n1 : Int))).setCell ⟨w.heap.size + 3, 1, none⟩ (.int .i32 (n2 : Int))) { s with sd := u } ao cap ⟨s.p.x, s.p.y, 0, 0, 100, s.p.c, s.p.f⟩ ⟨(n1 : Int), (n2 : Int), 0, 0, 100, s.p.c, s.p.f⟩) :=
    five_set (five_set HG.out (q' := ⟨(n1 : Int), s.p.y, 0, 0, 100, s.p.c, s.p.f⟩) 0 (.int .i32 (n1 : Int)) rfl) (q' := ⟨(n1 : Int), (n2 : Int), 0, 0, 100, s.p.c, s.p.f⟩) 1 (.int .i32 (n2 : Int)) rfl
  go_upto_region 13 with fail
  generalize (we.setCell ⟨w.heap.size + 3, 0, none⟩ (.int .i32 (n1 : Int))).setCell ⟨w.heap.size + 3, 1, none⟩ (.int .i32 (n2 : Int)) = wf at *
  clear k0 z0 k1 z1 hw1 hw2 HG
  obtain ⟨r, hr⟩ : ∃ r : Pl, r = ⟨(n1 : Int), (n2 : Int), 0, 0, 100, s.p.c, s.p.f⟩ := ⟨_, rfl⟩
  have hrx : G.in32 r.x := by rw [hr]; constructor <;> (show _ ≤ _; dsimp only; omega)
  have hry : G.in32 r.y := by rw [hr]; constructor <;> (show _ ≤ _; dsimp only; omega)
  rw [← hr] at HQ HH
  clear hr hl1 hl2
  obtain ⟨t, ht⟩ : ∃ t : Pl, t = ⟨s.p.x, s.p.y, 0, 0, 100, s.p.c, s.p.f⟩ := ⟨_, rfl⟩
  rw [← ht] at HQ HH
  clear ht
  have r0 : wf.cell? ⟨w.heap.size + 3, 0, none⟩ = some (.int .i32 r.x) := G.cellAt HH.out.ql 0 rfl
  have r1 : wf.cell? ⟨w.heap.size + 3, 1, none⟩ = some (.int .i32 r.y) := G.cellAt HH.out.ql 1 rfl
  have r2 : wf.cell? ⟨w.heap.size + 3, 2, none⟩ = some (.int .i32 r.vx) := G.cellAt HH.out.ql 2 rfl
  have r3 : wf.cell? ⟨w.heap.size + 3, 3, none⟩ = some (.int .i32 r.vy) := G.cellAt HH.out.ql 3 rfl
  have r4 : wf.cell? ⟨w.heap.size + 3, 4, none⟩ = some (.int .u8 (r.h : Int)) := G.cellAt HH.out.ql 4 rfl
  have r5 : wf.cell? ⟨w.heap.size + 3, 5, none⟩ = some (.int .u8 (r.c : Int)) := G.cellAt HH.out.ql 5 rfl
  have r6 : wf.cell? ⟨w.heap.size + 3, 6, none⟩ = some (.int .u8 (r.f : Int)) := G.cellAt HH.out.ql 6 rfl
  obtain ⟨wq, hst, HI⟩ : ∃ wq, (storePl (.pointer (some ⟨w.heap.size, 2, none⟩)) (.agg #[.int .i32 r.x, .int .i32 r.y, .int .i32 r.vx, .int .i32 r.vy, .int .u8 (r.h : Int), .int .u8 (r.c : Int), .int .u8 (r.f : Int)])).run Tryd.prog wf = .ok () wq ∧ Hid (FivE w wq { s with sd := u, p := r } ao cap t r) :=
    ⟨_, run_storePl 2 HH.out.st (by simp) rfl (by simp [Value.oneCell']), five_row0 HH.out r⟩
  go_upto_region 14 with fail
  clear r0 r1 r2 r3 r4 r5 r6 hst HH
  obtain ⟨b, hb⟩ : ∃ b, b = decide (OvP r s.q) := ⟨_, rfl⟩
  have C1 : Hid (∀ W, Calls Tryd.prog 78 #[.agg #[.int .i32 r.x, .int .i32 r.y, .int .i32 r.vx, .int .i32 r.vy, .int .u8 (r.h : Int), .int .u8 (r.c : Int), .int .u8 (r.f : Int)]] W fun E w' => E = .returned (.agg #[.int .i32 r.x, .int .i32 r.y, .int .i32 4096, .int .i32 4096]) ∧ Below W.heap.size W w') := fun W => refBox r W
  have C2 : Hid (∀ W, Calls Tryd.prog 78 #[.agg #[.int .i32 s.q.x, .int .i32 s.q.y, .int .i32 s.q.vx, .int .i32 s.q.vy, .int .u8 (s.q.h : Int), .int .u8 (s.q.c : Int), .int .u8 (s.q.f : Int)]] W fun E w' => E = .returned (.agg #[.int .i32 s.q.x, .int .i32 s.q.y, .int .i32 4096, .int .i32 4096]) ∧ Below W.heap.size W w') := fun W => refBox s.q W
  have C3 : Hid (∀ W, Calls Tryd.prog 77 #[.agg #[.int .i32 r.x, .int .i32 r.y, .int .i32 4096, .int .i32 4096], .agg #[.int .i32 s.q.x, .int .i32 s.q.y, .int .i32 4096, .int .i32 4096]] W fun E w' => E = .returned (.bool b) ∧ Below W.heap.size W w') := fun W => by
    rw [hb, ← ovr_box]
    exact G.refOver ⟨r.x, r.y, 4096, 4096⟩ ⟨s.q.x, s.q.y, 4096, 4096⟩ W ⟨hrx, hry, box_in, box_in⟩ ⟨hox, hoy, box_in, box_in⟩
  have HB := Lib.hid hb
  clear hb hrx hry
  have a0 : ∀ w', G.On wq.heap.size wq w' → w'.cell? ⟨w.heap.size + 3, 0, none⟩ = some (.int .i32 r.x) := G.on_cell HI.out.ql HI.out.ql.lt 0 rfl
  have a1 : ∀ w', G.On wq.heap.size wq w' → w'.cell? ⟨w.heap.size + 3, 1, none⟩ = some (.int .i32 r.y) := G.on_cell HI.out.ql HI.out.ql.lt 1 rfl
  have a2 : ∀ w', G.On wq.heap.size wq w' → w'.cell? ⟨w.heap.size + 3, 2, none⟩ = some (.int .i32 r.vx) := G.on_cell HI.out.ql HI.out.ql.lt 2 rfl
  have a3 : ∀ w', G.On wq.heap.size wq w' → w'.cell? ⟨w.heap.size + 3, 3, none⟩ = some (.int .i32 r.vy) := G.on_cell HI.out.ql HI.out.ql.lt 3 rfl
  have a4 : ∀ w', G.On wq.heap.size wq w' → w'.cell? ⟨w.heap.size + 3, 4, none⟩ = some (.int .u8 (r.h : Int)) := G.on_cell HI.out.ql HI.out.ql.lt 4 rfl
  have a5 : ∀ w', G.On wq.heap.size wq w' → w'.cell? ⟨w.heap.size + 3, 5, none⟩ = some (.int .u8 (r.c : Int)) := G.on_cell HI.out.ql HI.out.ql.lt 5 rfl
  have a6 : ∀ w', G.On wq.heap.size wq w' → w'.cell? ⟨w.heap.size + 3, 6, none⟩ = some (.int .u8 (r.f : Int)) := G.on_cell HI.out.ql HI.out.ql.lt 6 rfl
  have hlt : w.heap.size < wq.heap.size := Cells.lt HI.out.st
  have e0 : ∀ w', G.On wq.heap.size wq w' → w'.cell? ⟨w.heap.size, 9, none⟩ = some (.int .i32 s.q.x) := G.on_cell HI.out.st hlt 9 rfl
  have e1 : ∀ w', G.On wq.heap.size wq w' → w'.cell? ⟨w.heap.size, 10, none⟩ = some (.int .i32 s.q.y) := G.on_cell HI.out.st hlt 10 rfl
  have e2 : ∀ w', G.On wq.heap.size wq w' → w'.cell? ⟨w.heap.size, 11, none⟩ = some (.int .i32 s.q.vx) := G.on_cell HI.out.st hlt 11 rfl
  have e3 : ∀ w', G.On wq.heap.size wq w' → w'.cell? ⟨w.heap.size, 12, none⟩ = some (.int .i32 s.q.vy) := G.on_cell HI.out.st hlt 12 rfl
  have e4 : ∀ w', G.On wq.heap.size wq w' → w'.cell? ⟨w.heap.size, 13, none⟩ = some (.int .u8 (s.q.h : Int)) := G.on_cell HI.out.st hlt 13 rfl
  have e5 : ∀ w', G.On wq.heap.size wq w' → w'.cell? ⟨w.heap.size, 14, none⟩ = some (.int .u8 (s.q.c : Int)) := G.on_cell HI.out.st hlt 14 rfl
  have e6 : ∀ w', G.On wq.heap.size wq w' → w'.cell? ⟨w.heap.size, 15, none⟩ = some (.int .u8 (s.q.f : Int)) := G.on_cell HI.out.st hlt 15 rfl
  clear hlt
  have hwr : IntKind.i64.wrap 1 = 1 := by decide
  have o0 := G.On.drew wq.heap.size wq
  go_region_held3 (fun w' => G.On wq.heap.size wq w') (first | assumption) (first | (go_at_call 78; refine (C1.out _).mono ?_; rintro E w4 ⟨rfl, hb4⟩; have o4 := G.on_step (wd := wq) (by assumption) hb4) | (go_at_call 78; refine (C2.out _).mono ?_; rintro E w4 ⟨rfl, hb4⟩; have o4 := G.on_step (wd := wq) (by assumption) hb4) | (go_at_call 77; refine (C3.out _).mono ?_; rintro E w4 ⟨rfl, hb4⟩; have o4 := G.on_step (wd := wq) (by assumption) hb4))
  have HJ : Hid (FivE w w4 { s with sd := u, p := r } ao cap t r) := five_below HI.out o4
  clear a0 a1 a2 a3 a4 a5 a6 e0 e1 e2 e3 e4 e5 e6 o0 HI C1 C2 C3 o4 hwr
  cases b
  · rw [if_neg (of_decide_eq_false HB.out.symm)] at HQ
    have hrow := rowOf_cells HJ.out.st
    have hsz : (rowOf w4 w.heap.size).size = 19 := by rw [hrow]; rfl
    have hok : okRow w4 (w.heap.size + 1) := ⟨_, _, HJ.out.re, rfl⟩
    go_wp2
    refine bodyPost_ret (v := sv { s with sd := u, p := r } ao cap) ?_ rfl ?_
    · exact ret_state _ 4 _ Tryd.results53 (bk_setRow HJ.out.re { s with sd := u, p := r } ao cap) rfl rfl
    · exact HQ.out _ (below_setRow HJ.out.be (Nat.le_succ _) _)
  · rw [if_pos (of_decide_eq_true HB.out.symm)] at HQ
    have r0 : w4.cell? ⟨w.heap.size + 2, 0, none⟩ = some (.int .i32 t.x) := G.cellAt HJ.out.pl 0 rfl
    have r1 : w4.cell? ⟨w.heap.size + 2, 1, none⟩ = some (.int .i32 t.y) := G.cellAt HJ.out.pl 1 rfl
    have r2 : w4.cell? ⟨w.heap.size + 2, 2, none⟩ = some (.int .i32 t.vx) := G.cellAt HJ.out.pl 2 rfl
    have r3 : w4.cell? ⟨w.heap.size + 2, 3, none⟩ = some (.int .i32 t.vy) := G.cellAt HJ.out.pl 3 rfl
    have r4 : w4.cell? ⟨w.heap.size + 2, 4, none⟩ = some (.int .u8 (t.h : Int)) := G.cellAt HJ.out.pl 4 rfl
    have r5 : w4.cell? ⟨w.heap.size + 2, 5, none⟩ = some (.int .u8 (t.c : Int)) := G.cellAt HJ.out.pl 5 rfl
    have r6 : w4.cell? ⟨w.heap.size + 2, 6, none⟩ = some (.int .u8 (t.f : Int)) := G.cellAt HJ.out.pl 6 rfl
    obtain ⟨ww, hst, HL⟩ : ∃ ww, (storePl (.pointer (some ⟨w.heap.size, 2, none⟩)) (.agg #[.int .i32 t.x, .int .i32 t.y, .int .i32 t.vx, .int .i32 t.vy, .int .u8 (t.h : Int), .int .u8 (t.c : Int), .int .u8 (t.f : Int)])).run Tryd.prog w4 = .ok () ww ∧ Hid (FivE w ww { s with sd := u, p := t } ao cap t r) :=
      ⟨_, run_storePl 2 HJ.out.st (by simp) rfl (by simp [Value.oneCell']), five_row0 HJ.out t⟩
    go_upto_region 16 with fail
    clear r0 r1 r2 r3 r4 r5 r6 hst HJ
    have hrow := rowOf_cells HL.out.st
    have hsz : (rowOf ww w.heap.size).size = 19 := by rw [hrow]; rfl
    have hok : okRow ww (w.heap.size + 1) := ⟨_, _, HL.out.re, rfl⟩
    go_wp2
    refine bodyPost_ret (v := sv { s with sd := u, p := t } ao cap) ?_ rfl ?_
    · exact ret_state _ 4 _ Tryd.results53 (bk_setRow HL.out.re { s with sd := u, p := t } ao cap) rfl rfl
    · exact HQ.out _ (below_setRow HL.out.be (Nat.le_succ _) _)
theorem five0_c (s : St) (ao : Option Addr) (cap : Nat) (w : World) (hsd : s.sd < 18446744073709551616) (hox : G.in32 s.q.x) (hoy : G.in32 s.q.y) :
    Calls Tryd.prog 53 #[sv s ao cap, .int .i64 0] w fun E w' => E = .returned (sv (back src s 0) ao cap) ∧ Below w.heap.size w w' := by
  by_cases hh : 0 < s.p.h
  · have e : back src s 0 = s := by rw [back, if_pos (by show 0 < s.p.h; exact hh)]
    rw [e]; exact five0_alive s ao cap w hh
  · exact five0_dead s ao cap w (by omega) hsd hox hoy
set_option maxHeartbeats 2000000 in
set_option maxRecDepth 20000 in
theorem five1_alive (s : St) (ao : Option Addr) (cap : Nat) (w : World) (hh : 0 < s.q.h) :
    Calls Tryd.prog 53 #[sv s ao cap, .int .i64 1] w fun E w' => E = .returned (sv s ao cap) ∧ Below w.heap.size w w' := by
  obtain ⟨wa, hwa⟩ : ∃ wa, wa = (w.alloc (.cells (stc s ao cap) 30)).alloc (.cells #[.int .u64 0, .int .u64 0, .int .i32 0, .int .i32 0, .int .i32 0, .int .i32 0, .int .u8 0, .int .u8 0, .int .u8 0, .int .i32 0, .int .i32 0, .int .i32 0, .int .i32 0, .int .u8 0, .int .u8 0, .int .u8 0, .slice none 0 0, .int .u16 0, .int .u16 0] 30) := ⟨_, rfl⟩
  have HK : Hid (FivK w wa s ao cap) := by rw [hwa]; exact fivk_made w s ao cap
  obtain ⟨Q, hQ⟩ : ∃ Q : Ending → World → Prop, Q = fun E w' => E = .returned (sv s ao cap) ∧ Below w.heap.size w w' := ⟨_, rfl⟩
  rw [← hQ]
  have HQ : Hid (∀ w', Below w.heap.size w w' → Q (.returned (sv s ao cap)) w') := fun w' h => by rw [hQ]; exact ⟨rfl, h⟩
  clear hQ
  go_enter Tryd.func53, Tryd.ntmps53
  go_upto_region 1 with fail
  generalize (w.alloc (.cells (stc s ao cap) 30)).alloc (.cells #[.int .u64 0, .int .u64 0, .int .i32 0, .int .i32 0, .int .i32 0, .int .i32 0, .int .u8 0, .int .u8 0, .int .u8 0, .int .i32 0, .int .i32 0, .int .i32 0, .int .i32 0, .int .u8 0, .int .u8 0, .int .u8 0, .slice none 0 0, .int .u16 0, .int .u16 0] 30) = wb at *
  subst hwa
  have c4 : wa.cell? ⟨w.heap.size, 13, none⟩ = some (.int .u8 (s.q.h : Int)) := HK.out.st.of 13 _ rfl
  have hhi : (0 : Int) < (s.q.h : Int) := by omega
  have hrow := rowOf_cells HK.out.st
  have hsz : (rowOf wa w.heap.size).size = 19 := by rw [hrow]; rfl
  have hok : okRow wa (w.heap.size + 1) := ⟨_, _, HK.out.re, rfl⟩
  go_wp2
  refine bodyPost_ret (v := sv s ao cap) ?_ rfl ?_
  · exact ret_state _ 4 _ Tryd.results53 (bk_setRow HK.out.re s ao cap) rfl rfl
  · exact HQ.out _ (below_setRow HK.out.be (Nat.le_succ _) _)
set_option maxHeartbeats 2000000 in
set_option maxRecDepth 20000 in
theorem five1_dead (s : St) (ao : Option Addr) (cap : Nat) (w : World) (hh : s.q.h = 0) (hsd : s.sd < 18446744073709551616) (hox : G.in32 s.p.x) (hoy : G.in32 s.p.y) :
    Calls Tryd.prog 53 #[sv s ao cap, .int .i64 1] w fun E w' => E = .returned (sv (back src s 1) ao cap) ∧ Below w.heap.size w w' := by
  obtain ⟨wa, hwa⟩ : ∃ wa, wa = (w.alloc (.cells (stc s ao cap) 30)).alloc (.cells #[.int .u64 0, .int .u64 0, .int .i32 0, .int .i32 0, .int .i32 0, .int .i32 0, .int .u8 0, .int .u8 0, .int .u8 0, .int .i32 0, .int .i32 0, .int .i32 0, .int .i32 0, .int .u8 0, .int .u8 0, .int .u8 0, .slice none 0 0, .int .u16 0, .int .u16 0] 30) := ⟨_, rfl⟩
  have HK : Hid (FivK w wa s ao cap) := by rw [hwa]; exact fivk_made w s ao cap
  have hsw : wa.heap.size = w.heap.size + 2 := by rw [hwa]; simp
  obtain ⟨Q, hQ⟩ : ∃ Q : Ending → World → Prop, Q = fun E w' => E = .returned (sv (back src s 1) ao cap) ∧ Below w.heap.size w w' := ⟨_, rfl⟩
  rw [← hQ]
  have HQ : Hid (∀ w', Below w.heap.size w w' → Q (.returned (sv (back src s 1) ao cap)) w') := fun w' h => by rw [hQ]; exact ⟨rfl, h⟩
  clear hQ
  go_enter Tryd.func53, Tryd.ntmps53
  go_upto_region 1 with fail
  generalize (w.alloc (.cells (stc s ao cap) 30)).alloc (.cells #[.int .u64 0, .int .u64 0, .int .i32 0, .int .i32 0, .int .i32 0, .int .i32 0, .int .u8 0, .int .u8 0, .int .u8 0, .int .i32 0, .int .i32 0, .int .i32 0, .int .i32 0, .int .u8 0, .int .u8 0, .int .u8 0, .slice none 0 0, .int .u16 0, .int .u16 0] 30) = wb at *
  subst hwa
  have c4 : wa.cell? ⟨w.heap.size, 13, none⟩ = some (.int .u8 0) := (HK.out.st.of 13 _ rfl).trans (by show some (Value.int .u8 (s.q.h : Int)) = _; rw [hh]; rfl)
  have q0 : wa.cell? ⟨w.heap.size, 9, none⟩ = some (.int .i32 s.q.x) := HK.out.st.of 9 _ rfl
  have q1 : wa.cell? ⟨w.heap.size, 10, none⟩ = some (.int .i32 s.q.y) := HK.out.st.of 10 _ rfl
  have q2 : wa.cell? ⟨w.heap.size, 11, none⟩ = some (.int .i32 s.q.vx) := HK.out.st.of 11 _ rfl
  have q3 : wa.cell? ⟨w.heap.size, 12, none⟩ = some (.int .i32 s.q.vy) := HK.out.st.of 12 _ rfl
  have q5 : wa.cell? ⟨w.heap.size, 14, none⟩ = some (.int .u8 (s.q.c : Int)) := HK.out.st.of 14 _ rfl
  have q6 : wa.cell? ⟨w.heap.size, 15, none⟩ = some (.int .u8 (s.q.f : Int)) := HK.out.st.of 15 _ rfl
  go_upto_region 4 with fail
  have HD : Hid (FivD w (wa.alloc (.cells #[.int .i32 s.q.x, .int .i32 s.q.y, .int .i32 s.q.vx, .int .i32 s.q.vy, .int .u8 0, .int .u8 (s.q.c : Int), .int .u8 (s.q.f : Int)] 24)) s ao cap ⟨s.q.x, s.q.y, s.q.vx, s.q.vy, 0, s.q.c, s.q.f⟩) := fivd_made HK.out hsw ⟨s.q.x, s.q.y, s.q.vx, s.q.vy, 0, s.q.c, s.q.f⟩
  generalize wa.alloc (.cells #[.int .i32 s.q.x, .int .i32 s.q.y, .int .i32 s.q.vx, .int .i32 s.q.vy, .int .u8 0, .int .u8 (s.q.c : Int), .int .u8 (s.q.f : Int)] 24) = wb at *
  clear c4 q0 q1 q2 q3 q5 q6 HK hsw
  have c0 := HD.out.pl
  have z4 := c0.frozen 4
  have k4 : wb.cell? ⟨w.heap.size + 2, 4, none⟩ = some (.int .u8 0) := G.cellAt c0 4 rfl
  have c1 := c0.set 4 (.int .u8 100)
  have z2 := c1.frozen 2
  have k2 : (wb.setCell ⟨w.heap.size + 2, 4, none⟩ (.int .u8 100)).cell? ⟨w.heap.size + 2, 2, none⟩ = some (.int .i32 s.q.vx) := G.cellAt c1 2 rfl
  have c2 := c1.set 2 (.int .i32 0)
  have z3 := c2.frozen 3
  have k3 : ((wb.setCell ⟨w.heap.size + 2, 4, none⟩ (.int .u8 100)).setCell ⟨w.heap.size + 2, 2, none⟩ (.int .i32 0)).cell? ⟨w.heap.size + 2, 3, none⟩ = some (.int .i32 s.q.vy) := G.cellAt c2 3 rfl
  clear c0 c1 c2
  have HE : Hid (FivD w (((wb.setCell ⟨w.heap.size + 2, 4, none⟩ (.int .u8 100)).setCell ⟨w.heap.size + 2, 2, none⟩ (.int .i32 0)).setCell ⟨w.heap.size + 2, 3, none⟩ (.int .i32 0)) s ao cap ⟨s.q.x, s.q.y, 0, 0, 100, s.q.c, s.q.f⟩) :=
    fivd_set (fivd_set (fivd_set HD.out (p' := ⟨s.q.x, s.q.y, s.q.vx, s.q.vy, 100, s.q.c, s.q.f⟩) 4 (.int .u8 100) rfl) (p' := ⟨s.q.x, s.q.y, 0, s.q.vy, 100, s.q.c, s.q.f⟩) 2 (.int .i32 0) rfl) 3 (.int .i32 0) rfl
  go_upto_region 7 with fail
  generalize ((wb.setCell ⟨w.heap.size + 2, 4, none⟩ (.int .u8 100)).setCell ⟨w.heap.size + 2, 2, none⟩ (.int .i32 0)).setCell ⟨w.heap.size + 2, 3, none⟩ (.int .i32 0) = wc at *
  clear k4 z4 k2 z2 k3 z3 HD
  have ks : wc.cell? ⟨w.heap.size, 1, none⟩ = some (.int .u64 (s.sd : Int)) := HE.out.st.of 1 _ rfl
  have B1 := Lib.hid (R.refBelow_many s.sd 61441 wc (by decide) (by decide) hsd)
  have B2 := Lib.hid (R.refBelow_many (skp s.sd 1) 28673 wc (by decide) (by decide) (skp_lt s.sd 1))
  go_wp2_with fail
  refine B1.out.mono ?_
  rintro E w3 ⟨rfl, rfl⟩
  go_wp2_with fail
  refine B2.out.mono ?_
  rintro E w4 ⟨rfl, rfl⟩
  clear B1 B2
  have f1 := Cells.frozen HE.out.st 1
  have HF : Hid (FivD w (wc.setCell ⟨w.heap.size, 1, none⟩ (.int .u64 ((skp (skp s.sd 1) 1 : Nat) : Int))) { s with sd := skp (skp s.sd 1) 1 } ao cap ⟨s.q.x, s.q.y, 0, 0, 100, s.q.c, s.q.f⟩) := fivd_seed HE.out _
  have HBK : Hid (back src s 1 = { s with q := if OvP ⟨(R.bl s.sd 61441 : Nat), (R.bl (skp s.sd 1) 28673 : Nat), 0, 0, 100, s.q.c, s.q.f⟩ s.p then ⟨s.q.x, s.q.y, 0, 0, 100, s.q.c, s.q.f⟩ else ⟨(R.bl s.sd 61441 : Nat), (R.bl (skp s.sd 1) 28673 : Nat), 0, 0, 100, s.q.c, s.q.f⟩, sd := skp (skp s.sd 1) 1 }) := by
    show _ = _
    rw [back, if_neg (by show ¬ 0 < s.q.h; omega)]
    rfl
  have hl1 : R.bl s.sd 61441 < 61441 := bel_lt mx_lt (by decide)
  have hl2 : R.bl (skp s.sd 1) 28673 < 28673 := bel_lt mx_lt (by decide)
  rw [HBK.out] at HQ
  clear HBK
  go_upto_region 10 with fail
  generalize wc.setCell ⟨w.heap.size, 1, none⟩ (.int .u64 ((skp (skp s.sd 1) 1 : Nat) : Int)) = wd at *
  clear ks f1 HE
  generalize R.bl s.sd 61441 = n1 at *
  generalize R.bl (skp s.sd 1) 28673 = n2 at *
  generalize skp (skp s.sd 1) 1 = u at *
  have p0 : wd.cell? ⟨w.heap.size + 2, 0, none⟩ = some (.int .i32 s.q.x) := G.cellAt HF.out.pl 0 rfl
  have p1 : wd.cell? ⟨w.heap.size + 2, 1, none⟩ = some (.int .i32 s.q.y) := G.cellAt HF.out.pl 1 rfl
  have p2 : wd.cell? ⟨w.heap.size + 2, 2, none⟩ = some (.int .i32 0) := G.cellAt HF.out.pl 2 rfl
  have p3 : wd.cell? ⟨w.heap.size + 2, 3, none⟩ = some (.int .i32 0) := G.cellAt HF.out.pl 3 rfl
  have p4 : wd.cell? ⟨w.heap.size + 2, 4, none⟩ = some (.int .u8 100) := G.cellAt HF.out.pl 4 rfl
  have p5 : wd.cell? ⟨w.heap.size + 2, 5, none⟩ = some (.int .u8 (s.q.c : Int)) := G.cellAt HF.out.pl 5 rfl
  have p6 : wd.cell? ⟨w.heap.size + 2, 6, none⟩ = some (.int .u8 (s.q.f : Int)) := G.cellAt HF.out.pl 6 rfl
  have hsw := HF.out.sz
  go_upto_region 11 with fail
  have HG : Hid (FivE w (wd.alloc (.cells #[.int .i32 s.q.x, .int .i32 s.q.y, .int .i32 0, .int .i32 0, .int .u8 100, .int .u8 (s.q.c : Int), .int .u8 (s.q.f : Int)] 24)) { s with sd := u } ao cap ⟨s.q.x, s.q.y, 0, 0, 100, s.q.c, s.q.f⟩ ⟨s.q.x, s.q.y, 0, 0, 100, s.q.c, s.q.f⟩) := five_made HF.out ⟨s.q.x, s.q.y, 0, 0, 100, s.q.c, s.q.f⟩
  generalize wd.alloc (.cells #[.int .i32 s.q.x, .int .i32 s.q.y, .int .i32 0, .int .i32 0, .int .u8 100, .int .u8 (s.q.c : Int), .int .u8 (s.q.f : Int)] 24) = we at *
  clear p0 p1 p2 p3 p4 p5 p6 HF hsw
  have c0 := HG.out.ql
  have z0 := c0.frozen 0
  have k0 : we.cell? ⟨w.heap.size + 3, 0, none⟩ = some (.int .i32 s.q.x) := G.cellAt c0 0 rfl
  have c1 := c0.set 0 (.int .i32 (n1 : Int))
  have z1 := c1.frozen 1
  have k1 : (we.setCell ⟨w.heap.size + 3, 0, none⟩ (.int .i32 (n1 : Int))).cell? ⟨w.heap.size + 3, 1, none⟩ = some (.int .i32 s.q.y) := G.cellAt c1 1 rfl
  clear c0 c1
  have hw1 : IntKind.i32.wrap (n1 : Int) = (n1 : Int) := by simp [IntKind.wrap, IntKind.bits, IntKind.signed]; omega
  have hw2 : IntKind.i32.wrap (n2 : Int) = (n2 : Int) := by simp [IntKind.wrap, IntKind.bits, IntKind.signed]; omega
  have HH : Hid (FivE w ((we.setCell ⟨w.heap.size + 3, 0, none⟩ (.int .i32 (n1 : Int))).setCell ⟨w.heap.size + 3, 1, none⟩ (.int .i32 (n2 : Int))) { s with sd := u } ao cap ⟨s.q.x, s.q.y, 0, 0, 100, s.q.c, s.q.f⟩ ⟨(n1 : Int), (n2 : Int), 0, 0, 100, s.q.c, s.q.f⟩) :=
    five_set (five_set HG.out (q' := ⟨(n1 : Int), s.q.y, 0, 0, 100, s.q.c, s.q.f⟩) 0 (.int .i32 (n1 : Int)) rfl) (q' := ⟨(n1 : Int), (n2 : Int), 0, 0, 100, s.q.c, s.q.f⟩) 1 (.int .i32 (n2 : Int)) rfl
  go_upto_region 13 with fail
  generalize (we.setCell ⟨w.heap.size + 3, 0, none⟩ (.int .i32 (n1 : Int))).setCell ⟨w.heap.size + 3, 1, none⟩ (.int .i32 (n2 : Int)) = wf at *
  clear k0 z0 k1 z1 hw1 hw2 HG
  obtain ⟨r, hr⟩ : ∃ r : Pl, r = ⟨(n1 : Int), (n2 : Int), 0, 0, 100, s.q.c, s.q.f⟩ := ⟨_, rfl⟩
  have hrx : G.in32 r.x := by rw [hr]; constructor <;> (show _ ≤ _; dsimp only; omega)
  have hry : G.in32 r.y := by rw [hr]; constructor <;> (show _ ≤ _; dsimp only; omega)
  rw [← hr] at HQ HH
  clear hr hl1 hl2
  obtain ⟨t, ht⟩ : ∃ t : Pl, t = ⟨s.q.x, s.q.y, 0, 0, 100, s.q.c, s.q.f⟩ := ⟨_, rfl⟩
  rw [← ht] at HQ HH
  clear ht
  have r0 : wf.cell? ⟨w.heap.size + 3, 0, none⟩ = some (.int .i32 r.x) := G.cellAt HH.out.ql 0 rfl
  have r1 : wf.cell? ⟨w.heap.size + 3, 1, none⟩ = some (.int .i32 r.y) := G.cellAt HH.out.ql 1 rfl
  have r2 : wf.cell? ⟨w.heap.size + 3, 2, none⟩ = some (.int .i32 r.vx) := G.cellAt HH.out.ql 2 rfl
  have r3 : wf.cell? ⟨w.heap.size + 3, 3, none⟩ = some (.int .i32 r.vy) := G.cellAt HH.out.ql 3 rfl
  have r4 : wf.cell? ⟨w.heap.size + 3, 4, none⟩ = some (.int .u8 (r.h : Int)) := G.cellAt HH.out.ql 4 rfl
  have r5 : wf.cell? ⟨w.heap.size + 3, 5, none⟩ = some (.int .u8 (r.c : Int)) := G.cellAt HH.out.ql 5 rfl
  have r6 : wf.cell? ⟨w.heap.size + 3, 6, none⟩ = some (.int .u8 (r.f : Int)) := G.cellAt HH.out.ql 6 rfl
  obtain ⟨wq, hst, HI⟩ : ∃ wq, (storePl (.pointer (some ⟨w.heap.size, 9, none⟩)) (.agg #[.int .i32 r.x, .int .i32 r.y, .int .i32 r.vx, .int .i32 r.vy, .int .u8 (r.h : Int), .int .u8 (r.c : Int), .int .u8 (r.f : Int)])).run Tryd.prog wf = .ok () wq ∧ Hid (FivE w wq { s with sd := u, q := r } ao cap t r) :=
    ⟨_, run_storePl 9 HH.out.st (by simp) rfl (by simp [Value.oneCell']), five_row1 HH.out r⟩
  go_upto_region 14 with fail
  clear r0 r1 r2 r3 r4 r5 r6 hst HH
  obtain ⟨b, hb⟩ : ∃ b, b = decide (OvP r s.p) := ⟨_, rfl⟩
  have C1 : Hid (∀ W, Calls Tryd.prog 78 #[.agg #[.int .i32 r.x, .int .i32 r.y, .int .i32 r.vx, .int .i32 r.vy, .int .u8 (r.h : Int), .int .u8 (r.c : Int), .int .u8 (r.f : Int)]] W fun E w' => E = .returned (.agg #[.int .i32 r.x, .int .i32 r.y, .int .i32 4096, .int .i32 4096]) ∧ Below W.heap.size W w') := fun W => refBox r W
  have C2 : Hid (∀ W, Calls Tryd.prog 78 #[.agg #[.int .i32 s.p.x, .int .i32 s.p.y, .int .i32 s.p.vx, .int .i32 s.p.vy, .int .u8 (s.p.h : Int), .int .u8 (s.p.c : Int), .int .u8 (s.p.f : Int)]] W fun E w' => E = .returned (.agg #[.int .i32 s.p.x, .int .i32 s.p.y, .int .i32 4096, .int .i32 4096]) ∧ Below W.heap.size W w') := fun W => refBox s.p W
  have C3 : Hid (∀ W, Calls Tryd.prog 77 #[.agg #[.int .i32 r.x, .int .i32 r.y, .int .i32 4096, .int .i32 4096], .agg #[.int .i32 s.p.x, .int .i32 s.p.y, .int .i32 4096, .int .i32 4096]] W fun E w' => E = .returned (.bool b) ∧ Below W.heap.size W w') := fun W => by
    rw [hb, ← ovr_box]
    exact G.refOver ⟨r.x, r.y, 4096, 4096⟩ ⟨s.p.x, s.p.y, 4096, 4096⟩ W ⟨hrx, hry, box_in, box_in⟩ ⟨hox, hoy, box_in, box_in⟩
  have HB := Lib.hid hb
  clear hb hrx hry
  have a0 : ∀ w', G.On wq.heap.size wq w' → w'.cell? ⟨w.heap.size + 3, 0, none⟩ = some (.int .i32 r.x) := G.on_cell HI.out.ql HI.out.ql.lt 0 rfl
  have a1 : ∀ w', G.On wq.heap.size wq w' → w'.cell? ⟨w.heap.size + 3, 1, none⟩ = some (.int .i32 r.y) := G.on_cell HI.out.ql HI.out.ql.lt 1 rfl
  have a2 : ∀ w', G.On wq.heap.size wq w' → w'.cell? ⟨w.heap.size + 3, 2, none⟩ = some (.int .i32 r.vx) := G.on_cell HI.out.ql HI.out.ql.lt 2 rfl
  have a3 : ∀ w', G.On wq.heap.size wq w' → w'.cell? ⟨w.heap.size + 3, 3, none⟩ = some (.int .i32 r.vy) := G.on_cell HI.out.ql HI.out.ql.lt 3 rfl
  have a4 : ∀ w', G.On wq.heap.size wq w' → w'.cell? ⟨w.heap.size + 3, 4, none⟩ = some (.int .u8 (r.h : Int)) := G.on_cell HI.out.ql HI.out.ql.lt 4 rfl
  have a5 : ∀ w', G.On wq.heap.size wq w' → w'.cell? ⟨w.heap.size + 3, 5, none⟩ = some (.int .u8 (r.c : Int)) := G.on_cell HI.out.ql HI.out.ql.lt 5 rfl
  have a6 : ∀ w', G.On wq.heap.size wq w' → w'.cell? ⟨w.heap.size + 3, 6, none⟩ = some (.int .u8 (r.f : Int)) := G.on_cell HI.out.ql HI.out.ql.lt 6 rfl
  have hlt : w.heap.size < wq.heap.size := Cells.lt HI.out.st
  have e0 : ∀ w', G.On wq.heap.size wq w' → w'.cell? ⟨w.heap.size, 2, none⟩ = some (.int .i32 s.p.x) := G.on_cell HI.out.st hlt 2 rfl
  have e1 : ∀ w', G.On wq.heap.size wq w' → w'.cell? ⟨w.heap.size, 3, none⟩ = some (.int .i32 s.p.y) := G.on_cell HI.out.st hlt 3 rfl
  have e2 : ∀ w', G.On wq.heap.size wq w' → w'.cell? ⟨w.heap.size, 4, none⟩ = some (.int .i32 s.p.vx) := G.on_cell HI.out.st hlt 4 rfl
  have e3 : ∀ w', G.On wq.heap.size wq w' → w'.cell? ⟨w.heap.size, 5, none⟩ = some (.int .i32 s.p.vy) := G.on_cell HI.out.st hlt 5 rfl
  have e4 : ∀ w', G.On wq.heap.size wq w' → w'.cell? ⟨w.heap.size, 6, none⟩ = some (.int .u8 (s.p.h : Int)) := G.on_cell HI.out.st hlt 6 rfl
  have e5 : ∀ w', G.On wq.heap.size wq w' → w'.cell? ⟨w.heap.size, 7, none⟩ = some (.int .u8 (s.p.c : Int)) := G.on_cell HI.out.st hlt 7 rfl
  have e6 : ∀ w', G.On wq.heap.size wq w' → w'.cell? ⟨w.heap.size, 8, none⟩ = some (.int .u8 (s.p.f : Int)) := G.on_cell HI.out.st hlt 8 rfl
  clear hlt
  have hwr : IntKind.i64.wrap 0 = 0 := by decide
  have o0 := G.On.drew wq.heap.size wq
  go_region_held3 (fun w' => G.On wq.heap.size wq w') (first | assumption) (first | (go_at_call 78; refine (C1.out _).mono ?_; rintro E w4 ⟨rfl, hb4⟩; have o4 := G.on_step (wd := wq) (by assumption) hb4) | (go_at_call 78; refine (C2.out _).mono ?_; rintro E w4 ⟨rfl, hb4⟩; have o4 := G.on_step (wd := wq) (by assumption) hb4) | (go_at_call 77; refine (C3.out _).mono ?_; rintro E w4 ⟨rfl, hb4⟩; have o4 := G.on_step (wd := wq) (by assumption) hb4))
  have HJ : Hid (FivE w w4 { s with sd := u, q := r } ao cap t r) := five_below HI.out o4
  clear a0 a1 a2 a3 a4 a5 a6 e0 e1 e2 e3 e4 e5 e6 o0 HI C1 C2 C3 o4 hwr
  cases b
  · rw [if_neg (of_decide_eq_false HB.out.symm)] at HQ
    have hrow := rowOf_cells HJ.out.st
    have hsz : (rowOf w4 w.heap.size).size = 19 := by rw [hrow]; rfl
    have hok : okRow w4 (w.heap.size + 1) := ⟨_, _, HJ.out.re, rfl⟩
    go_wp2
    refine bodyPost_ret (v := sv { s with sd := u, q := r } ao cap) ?_ rfl ?_
    · exact ret_state _ 4 _ Tryd.results53 (bk_setRow HJ.out.re { s with sd := u, q := r } ao cap) rfl rfl
    · exact HQ.out _ (below_setRow HJ.out.be (Nat.le_succ _) _)
  · rw [if_pos (of_decide_eq_true HB.out.symm)] at HQ
    have r0 : w4.cell? ⟨w.heap.size + 2, 0, none⟩ = some (.int .i32 t.x) := G.cellAt HJ.out.pl 0 rfl
    have r1 : w4.cell? ⟨w.heap.size + 2, 1, none⟩ = some (.int .i32 t.y) := G.cellAt HJ.out.pl 1 rfl
    have r2 : w4.cell? ⟨w.heap.size + 2, 2, none⟩ = some (.int .i32 t.vx) := G.cellAt HJ.out.pl 2 rfl
    have r3 : w4.cell? ⟨w.heap.size + 2, 3, none⟩ = some (.int .i32 t.vy) := G.cellAt HJ.out.pl 3 rfl
    have r4 : w4.cell? ⟨w.heap.size + 2, 4, none⟩ = some (.int .u8 (t.h : Int)) := G.cellAt HJ.out.pl 4 rfl
    have r5 : w4.cell? ⟨w.heap.size + 2, 5, none⟩ = some (.int .u8 (t.c : Int)) := G.cellAt HJ.out.pl 5 rfl
    have r6 : w4.cell? ⟨w.heap.size + 2, 6, none⟩ = some (.int .u8 (t.f : Int)) := G.cellAt HJ.out.pl 6 rfl
    obtain ⟨ww, hst, HL⟩ : ∃ ww, (storePl (.pointer (some ⟨w.heap.size, 9, none⟩)) (.agg #[.int .i32 t.x, .int .i32 t.y, .int .i32 t.vx, .int .i32 t.vy, .int .u8 (t.h : Int), .int .u8 (t.c : Int), .int .u8 (t.f : Int)])).run Tryd.prog w4 = .ok () ww ∧ Hid (FivE w ww { s with sd := u, q := t } ao cap t r) :=
      ⟨_, run_storePl 9 HJ.out.st (by simp) rfl (by simp [Value.oneCell']), five_row1 HJ.out t⟩
    go_upto_region 16 with fail
    clear r0 r1 r2 r3 r4 r5 r6 hst HJ
    have hrow := rowOf_cells HL.out.st
    have hsz : (rowOf ww w.heap.size).size = 19 := by rw [hrow]; rfl
    have hok : okRow ww (w.heap.size + 1) := ⟨_, _, HL.out.re, rfl⟩
    go_wp2
    refine bodyPost_ret (v := sv { s with sd := u, q := t } ao cap) ?_ rfl ?_
    · exact ret_state _ 4 _ Tryd.results53 (bk_setRow HL.out.re { s with sd := u, q := t } ao cap) rfl rfl
    · exact HQ.out _ (below_setRow HL.out.be (Nat.le_succ _) _)
theorem five1_c (s : St) (ao : Option Addr) (cap : Nat) (w : World) (hsd : s.sd < 18446744073709551616) (hox : G.in32 s.p.x) (hoy : G.in32 s.p.y) :
    Calls Tryd.prog 53 #[sv s ao cap, .int .i64 1] w fun E w' => E = .returned (sv (back src s 1) ao cap) ∧ Below w.heap.size w w' := by
  by_cases hh : 0 < s.q.h
  · have e : back src s 1 = s := by rw [back, if_pos (by show 0 < s.q.h; exact hh)]
    rw [e]; exact five1_alive s ao cap w hh
  · exact five1_dead s ao cap w (by omega) hsd hox hoy
end Go.Proofs.YtgmbdadkahcpcaaDoor
