/- A row of pairs of one's own beside the call's own blocks; a pair appended to it; pairs that stay readable while these blocks turn. -/
import Derived.Test.YtgmbdadkahcpcaaDoorVj
import Derived.Test.YtgmbdadkahcpcaaDoorWa
import Derived.Deep.AppendLies
namespace Go.Proofs.YtgmbdadkahcpcaaDoor
open Go.RowKit
set_option linter.unusedVariables false
set_option linter.unusedSimpArgs false
set_option maxRecDepth 20000

theorem prc_snoc : ∀ (l : List (Nat × Nat)) (p : Nat × Nat), prc (l ++ [p]) = prc l ++ [.int .u8 (p.1 : Int), .int .u8 (p.2 : Int)]
  | [], p => rfl
  | q :: l, p => by simp [prc, prc_snoc l p]
/-- A row of pairs of one's own, at B or beyond, none of these blocks. -/
structure Prr (B : Nat) (w : World) (bs : List Nat) (ao : Option Addr) (n cap : Nat) (l : List (Nat × Nat)) : Prop where
  own : w.ownsRow B 47 2 (.slice ao n cap) n (prc l)
  len : l.length = n
  far : ∀ b ∈ bs, (Value.slice ao n cap).ownBlock ≠ some b
  lo : ∀ b ∈ bs, b < w.heap.size
  nil : ao = none → cap = 0
section
variable {B : Nat} {w0 w w' : World} {L L' : List (Nat × TypeId × Array Value)} {bs : List Nat} {ao : Option Addr} {n cap : Nat} {l : List (Nat × Nat)}
theorem Prr.none (B : Nat) (w : World) (bs : List Nat) (hl : ∀ b ∈ bs, b < w.heap.size) : Prr B w bs none 0 0 [] := ⟨World.ownsRow_nil _ _ _ _, rfl, fun b _ h => (by cases h), hl, fun _ => rfl⟩
theorem Prr.to (h : Prr B w bs ao n cap l) (hb : Below w.heap.size w w') : Prr B w' bs ao n cap l :=
  ⟨h.own.kept (grown_of_below (r := Option.none) hb) (by cases hv : (Value.slice ao n cap).ownBlock <;> simp), h.len, h.far, fun b hbb => Nat.lt_of_lt_of_le (h.lo b hbb) hb.size, h.nil⟩
theorem Prr.turn (h : Prr B w bs ao n cap l) {g : Nat} (hg : g ∈ bs) (hb : w.grownBy w' (some g)) : Prr B w' bs ao n cap l :=
  ⟨h.own.kept hb (.inr (h.far g hg)), h.len, h.far, fun b hbb => Nat.lt_of_lt_of_le (h.lo b hbb) hb.size, h.nil⟩
theorem Prr.less (h : Prr B w bs ao n cap l) {bs' : List Nat} (hs : ∀ b ∈ bs', b ∈ bs) : Prr B w bs' ao n cap l := ⟨h.own, h.len, fun b hb => h.far b (hs b hb), fun b hb => h.lo b (hs b hb), h.nil⟩
theorem Prr.low {B' : Nat} (h : Prr B w bs ao n cap l) (hB : B' ≤ B) : Prr B' w bs ao n cap l := ⟨owns_less h.own hB, h.len, h.far, h.lo, h.nil⟩
theorem Prr.pis (h : Prr B w bs ao n cap l) (hf : ∀ p ∈ l, p.1 < 256 ∧ p.2 < 256) : Pis w ao l := by
  rcases h.own.2 with ⟨hv, h0⟩ | ⟨g, cap', cur, he, _, hh, _, _, _, hxs⟩
  · have : l = [] := List.length_eq_zero_iff.1 (by have := h.len; omega)
    subst this
    exact Pis.nil _ _
  · injection he with e1 e2 e3
    subst e1
    exact pis_cells hh (by rw [h.len]; exact hxs) hf
theorem Prr.caps (h : Prr B w bs ao n cap l) : n ≤ cap ∧ cap ≤ maxLen := by
  rcases h.own.2 with ⟨hv, h0⟩ | ⟨g, cap', cur, he, _, _, hn, hm, _, _⟩
  · have := h.nil (by injection hv); subst this; subst h0; exact ⟨Nat.le_refl _, by simp [maxLen]⟩
  · injection he with e1 e2 e3; subst e3; exact ⟨hn, hm⟩
theorem Prr.ge (h : Prr B w bs ao n cap l) : ∀ a, ao = some a → B ≤ a.block ∧ a.block < w.heap.size := fun a e => by
  subst e; exact h.own.lt _ rfl
/-- A block laid out new, beside the row. -/
theorem Prr.fresh (h : Prr B w bs ao n cap l) (hg : w.grownBy w' Option.none) {g : Nat} (e : w.heap.size = g) (hlt : g < w'.heap.size) : Prr B w' (bs ++ [g]) ao n cap l := by
  have h1 := h.to (below_of_grown hg)
  refine ⟨h1.own, h1.len, fun b hb e' => ?_, fun b hb => ?_, h1.nil⟩
  · rcases List.mem_append.1 hb with hb | hb
    · exact h.far b hb e'
    · rw [List.mem_singleton] at hb
      have := (h.own.lt b e').2
      omega
  · rcases List.mem_append.1 hb with hb | hb
    · exact h1.lo b hb
    · rw [List.mem_singleton] at hb; omega
theorem Prr.two (h : Prr B w [] ao n cap l) (o o' : Obj) : Prr B ((w.alloc o).alloc o') [w.heap.size, w.heap.size + 1] ao n cap l :=
  (h.fresh (w' := w.alloc o) (grown_alloc _ _) rfl (by simp)).fresh (grown_alloc _ _) (by simp) (by simp)
theorem Loc.ownP (h : Loc B w0 w L) (hr : Prr B w bs ao n cap l) (hbs : ∀ e ∈ L, e.1 ∈ bs) (hb : w.grownBy w' (Value.slice ao n cap).ownBlock) : Loc B w0 w' L := by
  cases hv : (Value.slice ao n cap).ownBlock with
  | none => rw [hv] at hb; exact h.grown hb
  | some r =>
    rw [hv] at hb
    exact h.row hb (hr.own.lt r hv).1 (fun e he q => hr.far e.1 (hbs e he) (by rw [hv, q]))
end
/-- append(row, pair): the literal's block is new. -/
theorem wpList_append_pi {B : Nat} {w0 w : World} {L : List (Nat × TypeId × Array Value)} {bs : List Nat} {ao : Option Addr} {n cap : Nat} {l : List (Nat × Nat)} {ops : Array Oper} {rest : List Oper} {o : Oper} {a : Act} {Q : Exit → Act → World → Prop} (hgd : o.guard = none) (s x : Operand)
    (ho : o.op = .call { callee := .builtin .append, args := #[s, x], argTypes := #[31, 31] }) (hs : a.eval s = .slice ao n cap) (z : Nat × Nat) (cs : Array Value) (hcs : cs.toList = [.int .u8 (z.1 : Int), .int .u8 (z.2 : Int)]) (hx : a.eval x = .slice (some ⟨w.heap.size, 0, none⟩) 1 1)
    (hR : Prr B w bs ao n cap l) (hL : Loc B w0 w L) (hbs : ∀ e ∈ L, e.1 ∈ bs) (hn : n ≤ 1000000)
    (h : ∀ r cap' w', Prr B w' bs (some ⟨r, 0, none⟩) (n + 1) cap' (l ++ [z]) → Loc B w0 w' L → wpList Tryd.prog ops Q rest (a.put o.dst (.slice (some ⟨r, 0, none⟩) (n + 1) cap')) w') :
    wpList Tryd.prog ops Q (o :: rest) a (w.alloc (.cells cs 47)) := by
  obtain ⟨i0, hi0, hz0, hz1, hz2⟩ := info_parts info_Pair
  have hal : w.grownBy (w.alloc (.cells cs 47)) none := grown_alloc _ _
  have hR1 : Prr B (w.alloc (.cells cs 47)) bs ao n cap l := hR.to (below_of_grown hal)
  have hL1 : Loc B w0 (w.alloc (.cells cs 47)) L := hL.grown hal
  have hc : Cells (w.alloc (.cells cs 47)) w.heap.size 47 cs := Cells.made w _ _
  have hlen : cs.toList.length = 2 := by rw [hcs]; rfl
  refine wpList_append_lies (w.alloc (.cells cs 47)) hgd s x 31 ho B 47 i0 (.agg #[.int .u8 0, .int .u8 0]) 2 2 Tryd.underlying31 hi0 hz0 hz1 hz2 rfl (by decide) (.slice ao n cap) n (prc l) hs hR1.own ⟨w.heap.size, 0, none⟩ 1 1 [Value.int .u8 (z.1 : Int), .int .u8 (z.2 : Int)] hx rfl (fun j u hu => ?_) (fun u hu => ?_) (by decide) (by simp only [maxLen]; omega) (by omega) (by have := hL1.size; exact this) _ rfl ?_
  · have hadd : (⟨w.heap.size, 0, none⟩ : Addr).add j = ⟨w.heap.size, j, none⟩ := by unfold Addr.add; split <;> simp_all
    rw [hadd, hc.cell, ← Array.getElem?_toList, hcs]; exact hu
  · exact prc_one [z] u (by simpa [prc] using hu)
  · intro g' cap' w1 hown1 hgr hat hlt1
    rw [← prc_snoc] at hown1
    refine h g' cap' w1 ⟨hown1, by simp [hR.len], fun b hb e => ?_, fun b hb => Nat.lt_of_lt_of_le (hR1.lo b hb) hgr.size, fun e => by cases e⟩ (hL1.ownP hR1 hbs hgr)
    have e : g' = b := by simpa [Value.ownBlock] using e
    subst e
    rcases hat with hat | hat
    · exact hR.far g' hb hat
    · have h1 := hR1.lo g' hb
      omega
/-- The same at a step of a region that draws its order. -/
theorem step_append_pi {B : Nat} {w0 w : World} {L : List (Nat × TypeId × Array Value)} {bs : List Nat} {ao : Option Addr} {n cap : Nat} {l : List (Nat × Nat)} {ops : Array Oper} {o : Oper} {a : Act} {K : Act → World → Prop} {E : Prop} {Q : Exit → Act → World → Prop} (hgd : o.guard = none) (s x : Operand)
    (ho : o.op = .call { callee := .builtin .append, args := #[s, x], argTypes := #[31, 31] }) (hs : a.eval s = .slice ao n cap) (z : Nat × Nat) (cs : Array Value) (hcs : cs.toList = [.int .u8 (z.1 : Int), .int .u8 (z.2 : Int)]) (hx : a.eval x = .slice (some ⟨w.heap.size, 0, none⟩) 1 1)
    (hR : Prr B w bs ao n cap l) (hL : Loc B w0 w L) (hbs : ∀ e ∈ L, e.1 ∈ bs) (hn : n ≤ 1000000)
    (h : ∀ r cap' w', Prr B w' bs (some ⟨r, 0, none⟩) (n + 1) cap' (l ++ [z]) → Loc B w0 w' L → K (a.put o.dst (.slice (some ⟨r, 0, none⟩) (n + 1) cap')) w') :
    if Region.wanted o (yielded ops a.tmps) = true then Oper.wp Tryd.prog o a (w.alloc (.cells cs 47)) K Q else E := by
  obtain ⟨i0, hi0, hz0, hz1, hz2⟩ := info_parts info_Pair
  have hal : w.grownBy (w.alloc (.cells cs 47)) none := grown_alloc _ _
  have hR1 : Prr B (w.alloc (.cells cs 47)) bs ao n cap l := hR.to (below_of_grown hal)
  have hL1 : Loc B w0 (w.alloc (.cells cs 47)) L := hL.grown hal
  have hc : Cells (w.alloc (.cells cs 47)) w.heap.size 47 cs := Cells.made w _ _
  have hlen : cs.toList.length = 2 := by rw [hcs]; rfl
  refine step_append_lies (w.alloc (.cells cs 47)) hgd s x 31 ho B 47 i0 (.agg #[.int .u8 0, .int .u8 0]) 2 2 Tryd.underlying31 hi0 hz0 hz1 hz2 rfl (by decide) (.slice ao n cap) n (prc l) hs hR1.own ⟨w.heap.size, 0, none⟩ 1 1 [Value.int .u8 (z.1 : Int), .int .u8 (z.2 : Int)] hx rfl (fun j u hu => ?_) (fun u hu => ?_) (by decide) (by simp only [maxLen]; omega) (by omega) (by have := hL1.size; exact this) _ rfl ?_
  · have hadd : (⟨w.heap.size, 0, none⟩ : Addr).add j = ⟨w.heap.size, j, none⟩ := by unfold Addr.add; split <;> simp_all
    rw [hadd, hc.cell, ← Array.getElem?_toList, hcs]; exact hu
  · exact prc_one [z] u (by simpa [prc] using hu)
  · intro g' cap' w1 hown1 hgr hat hlt1
    rw [← prc_snoc] at hown1
    refine h g' cap' w1 ⟨hown1, by simp [hR.len], fun b hb e => ?_, fun b hb => Nat.lt_of_lt_of_le (hR1.lo b hb) hgr.size, fun e => by cases e⟩ (hL1.ownP hR1 hbs hgr)
    have e : g' = b := by simpa [Value.ownBlock] using e
    subst e
    rcases hat with hat | hat
    · exact hR.far g' hb hat
    · have h1 := hR1.lo g' hb
      omega
/-- Pairs can be read there, and go on being so while these blocks turn. -/
structure Pix (w : World) (bs : List Nat) (lo : Option Addr) (l : List (Nat × Nat)) : Prop where
  pis : Pis w lo l
  far : ∀ a, lo = some a → a.block ∉ bs
section
variable {w w' : World} {bs : List Nat} {lo : Option Addr} {l : List (Nat × Nat)}
theorem Pix.to (h : Pix w bs lo l) (hb : Below w.heap.size w w') : Pix w' bs lo l := ⟨h.pis.to hb, h.far⟩
theorem Pix.turn (h : Pix w bs lo l) {g : Nat} (hg : g ∈ bs) (hb : w.grownBy w' (some g)) : Pix w' bs lo l := by
  refine ⟨fun k hk => ?_, h.far⟩
  obtain ⟨h1, h2, b, o, e, h3, h4⟩ := h.pis k hk
  have hlt : b < w.heap.size := World.block_lt_of_cell? w _ h3
  have hne : some b ≠ some g := fun e' => h.far _ e (by cases e'; exact hg)
  have hblk := hb.block b hlt hne
  have cellEq : ∀ o', w'.cell? ⟨b, o', none⟩ = w.cell? ⟨b, o', none⟩ := fun o' => by
    unfold World.cell?
    rw [hblk]
  exact ⟨h1, h2, b, o, e, by rw [cellEq]; exact h3, by rw [cellEq]; exact h4⟩
theorem Pix.nil (w : World) (bs : List Nat) : Pix w bs none [] := ⟨Pis.nil _ _, fun a e => by cases e⟩
theorem Pix.tail (h : Pix w bs lo l) (n : Nat) {lo' : Option Addr} (hb : ∀ b o, lo = some ⟨b, o, none⟩ → lo' = some ⟨b, o + n * 2, none⟩) (hn : n < l.length) : Pix w bs lo' (l.drop n) := by
  obtain ⟨b, o, _, _, e, _⟩ := h.pis.at n hn
  have e' := hb b o e
  refine ⟨fun k hk => ?_, fun a ea => ?_⟩
  · have hk' : n + k < l.length := by rw [List.length_drop] at hk; omega
    obtain ⟨h1, h2, b1, o1, e1, h3, h4⟩ := h.pis (n + k) hk'
    rw [e] at e1
    injection e1 with e1
    injection e1 with e1 e2
    subst e1 e2
    rw [List.getElem_drop]
    refine ⟨h1, h2, b, o + n * 2, e', ?_, ?_⟩
    · rw [show o + n * 2 + k * 2 = o + (n + k) * 2 by omega]; exact h3
    · rw [show o + n * 2 + k * 2 + 1 = o + (n + k) * 2 + 1 by omega]; exact h4
  · rw [e'] at ea
    cases ea
    exact h.far ⟨b, o, none⟩ e
end
end Go.Proofs.YtgmbdadkahcpcaaDoor
