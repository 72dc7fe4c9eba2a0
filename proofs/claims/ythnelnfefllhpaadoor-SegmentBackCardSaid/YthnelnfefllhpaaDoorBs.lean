/- The records that a play makes: they go on and agree. -/
import Derived.Test.YthnelnfefllhpaaDoorBq
namespace Go.Proofs.YthnelnfefllhpaaDoor
open Go.RowKit
set_option linter.unusedVariables false
set_option linter.unusedSimpArgs false
set_option maxRecDepth 20000

theorem ty_inps2 : TyO 48 := tyo_of Tryd.underlying48 rfl (by kernel_rfl)
theorem ty_play : TyA 42 3 := tya_struct Tryd.underlying42 (by kernel_rfl)
theorem ty_u16s : TyO 40 := tyo_of Tryd.underlying40 rfl (by kernel_rfl)
theorem ld_play (v : Value) : Instr.loadAt 42 v = ldT 42 v := rfl
theorem ld_u16s (v : Value) : Instr.loadAt 40 v = ldT 40 v := rfl
/-- Numbers of a play, where they can be read. -/
def U16s (w : World) (a : Option Addr) (L : List Nat) : Prop := ∀ k (h : k < L.length), (L[k]'h) < 65536 ∧ ∃ b o, a = some ⟨b, o, none⟩ ∧ w.cell? ⟨b, o + k, none⟩ = some (.int .u16 ((L[k]'h : Nat) : Int))
theorem U16s.new {w w' : World} {a : Option Addr} {L : List Nat} (h : U16s w a L) (hb : Below w.heap.size w w') : U16s w' a L := fun k hk => by
  obtain ⟨h1, b, o, e, hc⟩ := h k hk
  refine ⟨h1, b, o, e, ?_⟩
  rw [World.cell?_of_block (w := w) (hb.block b (World.block_lt_of_cell? w _ hc))]
  exact hc
def hd (f y : Nat) : Rc := ⟨3, 0, 0, 0, 0, 1, f, 1, y⟩
theorem hd_ok {f y : Nat} (hf : f < 18446744073709551616) (hy : y < 2) : (hd f y).fit ∧ mayB (hd f y) = true :=
  ⟨⟨by simp [hd], by simp [hd], by simp [hd], by simp [hd], by simp [hd], by simp [hd], by simp [hd], hf, by simp [hd], by show y < 256; omega⟩, by simp [mayB, lowB, hd, hy]⟩
/-- How far it has come: the records, what they say, the first frame, how many numbers were gone through, the player. -/
structure MadeI (f j y : Nat) (l : List Rc) (x : Sg) (m : Nat) : Prop where
  run : x = runS sg0 l
  goes : Goes 1 sg0 l
  one : 0 < l.length
  num : m = x.o - x.c
  cnt : l.length + 2 * f = 1 + x.o + x.c
  fc : f ≤ x.c
  co : x.c ≤ x.o
  of : x.o ≤ f + j
  m12 : m ≤ 12
  hy : x.h.y = y
  hb : x.b = true
  lt : ∀ q, inp x.l q < 64
theorem made_start {f y : Nat} (hf : f < 18446744073709551616) (hy : y < 2) : MadeI f 0 y [hd f y] ⟨true, hd f y, [], f, f⟩ 0 := by
  have hg : Goes 1 sg0 [hd f y] := ⟨(hd_ok hf hy).1, (hd_ok hf hy).2, by unfold tkS; rw [if_pos (show (hd f y).k = 3 from rfl), if_neg (by simp [sg0, hd])], trivial⟩
  exact ⟨rfl, hg, by simp, (Nat.sub_self _).symm, by simp; omega, Nat.le_refl _, Nat.le_refl _, Nat.le_refl _, by omega, rfl, rfl, fun q => by show inp [] q < 64; simp [inp]⟩
theorem made_own {f j y m u : Nat} {l : List Rc} {x : Sg} (h : MadeI f j y l x m) (hm : m < 12) (hf : f + j < 18446744073709551615) (hu : u < 64) : MadeI f (j + 1) y (l ++ [rO x.o u]) ⟨x.b, x.h, x.l ++ [rO x.o u], x.c, x.o + 1⟩ (m + 1) ∧ win ⟨x.b, x.h, x.l ++ [rO x.o u], x.c, x.o + 1⟩ = win x ++ [u] := by
  have h1 := h.num
  have h2 := h.of
  have h3 := h.co
  have hr := rO_ok (f := x.o) (i := u) (by omega) hu
  have ht : tkS 1 x (rO x.o u) = 0 := by
    unfold tkS
    rw [if_neg (by simp [rO]), if_neg (by rw [h.hb]; decide), if_pos (show (rO x.o u).k = 1 from rfl), if_neg (by simp only [rO]; omega)]
  have ha : adS x (rO x.o u) = ⟨x.b, x.h, x.l ++ [rO x.o u], x.c, x.o + 1⟩ := by
    unfold adS
    rw [if_neg (by simp [rO]), if_pos (show (rO x.o u).k = 1 from rfl)]
  refine ⟨⟨by rw [runS_snoc, ← h.run, ha], goes_snoc.2 ⟨h.goes, hr.1, hr.2, by rw [← h.run]; exact ht⟩, by simp, by show _ = x.o + 1 - x.c; omega, by have := h.cnt; simp; omega, h.fc, by show x.c ≤ x.o + 1; omega, by show x.o + 1 ≤ _; omega, by omega, h.hy, h.hb, fun q => ?_⟩, win_own h3 rfl rfl⟩
  show inp (x.l ++ [rO x.o u]) q < 64
  rw [inp_snoc]
  split
  · exact hu
  · exact h.lt q
theorem made_sure {f j y m : Nat} {l : List Rc} {x : Sg} {r : Rc} (h : MadeI f j y l x m) (hm : 0 < m) (hr : r.fit ∧ mayB r = true) (hk : r.k = 2) (hf : r.f = x.c) (hs : side r y = inp x.l x.c) : MadeI f j y (l ++ [r]) ⟨x.b, x.h, x.l ++ [r], x.c + 1, x.o⟩ (m - 1) ∧ win x = inp x.l x.c :: win ⟨x.b, x.h, x.l ++ [r], x.c + 1, x.o⟩ := by
  have h1 := h.num
  have h2 := h.of
  have h3 := h.co
  have ht : tkS 1 x r = 0 := by
    unfold tkS
    rw [if_neg (by omega), if_neg (by rw [h.hb]; decide), if_neg (by omega), if_neg (by omega), if_neg (by rw [h.hy, hf]; exact fun e => e hs)]
  have ha : adS x r = ⟨x.b, x.h, x.l ++ [r], x.c + 1, x.o⟩ := by
    unfold adS
    rw [if_neg (by omega), if_neg (by omega)]
  refine ⟨⟨by rw [runS_snoc, ← h.run, ha], goes_snoc.2 ⟨h.goes, hr.1, hr.2, by rw [← h.run]; exact ht⟩, by simp, by show _ = x.o - (x.c + 1); omega, by have := h.cnt; simp; omega, by show f ≤ x.c + 1; have := h.fc; omega, by show x.c + 1 ≤ x.o; omega, h.of, by have := h.m12; omega, h.hy, h.hb, fun q => ?_⟩, win_sure (by omega) (by omega)⟩
  show inp (x.l ++ [r]) q < 64
  rw [inp_snoc, if_neg (fun e => by omega)]
  exact h.lt q
theorem made_more {f j y m : Nat} {l : List Rc} {x : Sg} (h : MadeI f j y l x m) : MadeI f (j + 1) y l x m :=
  ⟨h.run, h.goes, h.one, h.num, h.cnt, h.fc, h.co, by have := h.of; omega, h.m12, h.hy, h.hb, h.lt⟩
section
variable {T : TypeId} {B B' : Nat} {w w' : World} {bs bs' : List Nat} {ao ao2 : Option Addr} {n cap m cp : Nat} {l : List Rc} {xs : List Nat}
/-- The two rows have cells of types unlike. -/
theorem Rcr.unlike (h : Rcr T B w bs ao n cap l) (hq : QRow B' w bs' ao2 m cp xs) (hT : T ≠ 24) {g : Nat} (hg : (Value.slice ao n cap).ownBlock = some g) : ao2.map (·.block) ≠ some g := by
  rcases hq.own with ⟨rfl, _⟩ | ⟨g2, o, cur, rfl, _, _, h4, _⟩
  · intro e; cases e
  · intro e
    have e : g2 = g := by simpa using e
    subst e
    rcases h.own.2 with ⟨hv, _⟩ | ⟨g3, cap3, cur3, hv, _, h6, _⟩
    · rw [hv] at hg; cases hg
    · rw [hv] at hg
      have e : g3 = g2 := by simpa [Value.ownBlock] using hg
      subst e
      rw [h4] at h6
      simp at h6
      exact hT h6.2.symm
theorem QRow.keep (h : QRow B w bs ao2 m cp xs) {row : Option Nat} (hb : w.grownBy w' row) (hne : ∀ g, row = some g → ao2.map (·.block) ≠ some g) : QRow B w' bs ao2 m cp xs :=
  ⟨h.len, h.own.imp id fun ⟨g, o, cur, h1, h2, h3, h4, h5⟩ => ⟨g, o, cur, h1, h2, h3, (hb.block g (Array.getElem?_eq_some_iff.1 h4).1 (fun e => hne g e.symm (by rw [h1]; rfl))).trans h4, h5⟩, fun b hbb => Nat.lt_of_lt_of_le (h.lo b hbb) hb.size⟩
theorem Rcr.keep (h : Rcr T B w bs ao n cap l) {row : Option Nat} (hb : w.grownBy w' row) (hne : (Value.slice ao n cap).ownBlock = Option.none ∨ (Value.slice ao n cap).ownBlock ≠ row) : Rcr T B w' bs ao n cap l :=
  ⟨h.own.kept hb hne, h.len, h.far, fun b hbb => Nat.lt_of_lt_of_le (h.lo b hbb) hb.size⟩
theorem Rcr.first {r : Rc} (hB : B ≤ w.heap.size) (hbs : ∀ b ∈ bs, b < w.heap.size) : Rcr T B (w.alloc (.cells (rcs r) T)) bs (some ⟨w.heap.size, 0, Option.none⟩) 1 1 [r] := by
  refine ⟨⟨by simp [Rall_len], .inr ⟨w.heap.size, 1, rcs r, rfl, hB, heap_alloc_new w _, Nat.le_refl _, by simp [maxLen], rfl, by rw [Rall_one]; simp [rcs]⟩⟩, rfl, fun b hb e => ?_, fun b hb => by have := hbs b hb; simp; omega⟩
  have e : w.heap.size = b := by simpa [Value.ownBlock] using e
  have := hbs b hb
  omega
end
section
variable {T TS : TypeId} {B B0 : Nat} {w0 w w' : World} {L L' : List (Nat × TypeId × Array Value)} {bs : List Nat} {ao : Option Addr} {n cap : Nat} {l : List Rc}
/-- append(row, record), and what has turned by it. -/
theorem wpList_append_recG {ops : Array Oper} {rest : List Oper} {o : Oper} {a : Act} {Q : Exit → Act → World → Prop} (hu : Tryd.prog.underlying TS = some (.slice T)) (hi : (Tryd.prog.info? T).map (fun i => (i.zero, i.size, i.bytes)) = some (some (.agg (rcs rz)), 9, 56)) (hgd : o.guard = none) (s x : Operand)
    (ho : o.op = .call { callee := .builtin .append, args := #[s, x], argTypes := #[TS, TS] }) (hs : a.eval s = .slice ao n cap) (r : Rc) (hx : a.eval x = .slice (some ⟨w.heap.size, 0, none⟩) 1 1)
    (hR : Rcr T B w bs ao n cap l) (hL : Loc B0 w0 w L) (hB : B0 ≤ B) (hB2 : B ≤ w.heap.size) (hbs : ∀ e ∈ L, e.1 ∈ bs) (hn : n ≤ 1000000)
    (h : ∀ r' cap' w', Rcr T B w' bs (some ⟨r', 0, none⟩) (n + 1) cap' (l ++ [r]) → Loc B0 w0 w' L → (w.alloc (.cells (rcs r) T)).grownBy w' (Value.slice ao n cap).ownBlock → wpList Tryd.prog ops Q rest (a.put o.dst (.slice (some ⟨r', 0, none⟩) (n + 1) cap')) w') :
    wpList Tryd.prog ops Q (o :: rest) a (w.alloc (.cells (rcs r) T)) := by
  refine wpList_plain hgd fun K hK => ?_
  obtain ⟨i0, hi0, hz0, hz1, hz2⟩ := info_parts hi
  have hal : w.grownBy (w.alloc (.cells (rcs r) T)) none := grown_alloc _ _
  have hR1 : Rcr T B (w.alloc (.cells (rcs r) T)) bs ao n cap l := hR.to (below_of_grown hal)
  have hL1 : Loc B0 w0 (w.alloc (.cells (rcs r) T)) L := hL.grown hal
  have hc : Cells (w.alloc (.cells (rcs r) T)) w.heap.size T (rcs r) := Cells.made w _ _
  refine wp_append_lies (w.alloc (.cells (rcs r) T)) s x TS ho B T i0 (.agg (rcs rz)) 9 56 hu hi0 hz0 hz1 hz2 rfl (by decide) (.slice ao n cap) n (Rall l) hs hR1.own ⟨w.heap.size, 0, none⟩ 1 1 (rcs r).toList hx rfl (fun j u hu => ?_) (rcs_one r) (by decide) (by simp only [maxLen]; omega) (by omega) (by have := hal.size; omega) _ rfl ?_
  · have hadd : (⟨w.heap.size, 0, none⟩ : Addr).add j = ⟨w.heap.size, j, none⟩ := by unfold Addr.add; split <;> simp_all
    rw [hadd, hc.cell, ← Array.getElem?_toList]; exact hu
  · intro g' cap' w1 hown1 hgr hat hlt1
    rw [← Rall_snoc] at hown1
    refine hK _ _ (h g' cap' w1 ⟨hown1, by simp [hR.len], fun b hb e => ?_, fun b hb => Nat.lt_of_lt_of_le (hR1.lo b hb) hgr.size⟩ (hL1.ownR hB hR1 hbs hgr) hgr)
    have e : g' = b := by simpa [Value.ownBlock] using e
    subst e
    rcases hat with hat | hat
    · exact hR.far g' hb hat
    · have h1 := hR1.lo g' hb
      omega
end
end Go.Proofs.YthnelnfefllhpaaDoor
