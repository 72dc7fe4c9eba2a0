/- A row of shots of one's own beside the call's own blocks; a shot appended to it. -/
import Derived.Test.YtgmbdadkahcpcaaDoorUg
import Derived.Test.YtgmbdadkahcpcaaDoorAe
import Derived.Deep.AppendLies
namespace Go.Proofs.YtgmbdadkahcpcaaDoor
open Go.RowKit
set_option linter.unusedVariables false
set_option linter.unusedSimpArgs false
set_option maxRecDepth 20000

/-- A row of shots of one's own, at B or beyond, none of these blocks. -/
structure Shr (B : Nat) (w : World) (bs : List Nat) (ao : Option Addr) (n cap : Nat) (l : List Sh) : Prop where
  own : w.ownsRow B 66 6 (.slice ao n cap) n (Hall l)
  len : l.length = n
  far : ∀ b ∈ bs, (Value.slice ao n cap).ownBlock ≠ some b
  lo : ∀ b ∈ bs, b < w.heap.size
  nil : ao = none → cap = 0
section
variable {B : Nat} {w0 w w' : World} {L L' : List (Nat × TypeId × Array Value)} {bs : List Nat} {ao : Option Addr} {n cap : Nat} {l : List Sh}
theorem Shr.none (B : Nat) (w : World) (bs : List Nat) (hl : ∀ b ∈ bs, b < w.heap.size) : Shr B w bs none 0 0 [] := ⟨World.ownsRow_nil _ _ _ _, rfl, fun b _ h => (by cases h), hl, fun _ => rfl⟩
theorem Shr.to (h : Shr B w bs ao n cap l) (hb : Below w.heap.size w w') : Shr B w' bs ao n cap l :=
  ⟨h.own.kept (grown_of_below (r := Option.none) hb) (by cases hv : (Value.slice ao n cap).ownBlock <;> simp), h.len, h.far, fun b hbb => Nat.lt_of_lt_of_le (h.lo b hbb) hb.size, h.nil⟩
theorem Shr.turn (h : Shr B w bs ao n cap l) {g : Nat} (hg : g ∈ bs) (hb : w.grownBy w' (some g)) : Shr B w' bs ao n cap l :=
  ⟨h.own.kept hb (.inr (h.far g hg)), h.len, h.far, fun b hbb => Nat.lt_of_lt_of_le (h.lo b hbb) hb.size, h.nil⟩
theorem Shr.less (h : Shr B w bs ao n cap l) {bs' : List Nat} (hs : ∀ b ∈ bs', b ∈ bs) : Shr B w bs' ao n cap l := ⟨h.own, h.len, fun b hb => h.far b (hs b hb), fun b hb => h.lo b (hs b hb), h.nil⟩
theorem Shr.low {B' : Nat} (h : Shr B w bs ao n cap l) (hB : B' ≤ B) : Shr B' w bs ao n cap l := ⟨owns_less h.own hB, h.len, h.far, h.lo, h.nil⟩
theorem Shr.shs (h : Shr B w bs ao n cap l) (hf : ∀ x ∈ l, x.fit) : Shs w ao l := by
  have := h.own
  exact shs_own this h.len hf
/-- A block laid out new, beside the row. -/
theorem Shr.fresh (h : Shr B w bs ao n cap l) (hg : w.grownBy w' Option.none) {g : Nat} (e : w.heap.size = g) (hlt : g < w'.heap.size) : Shr B w' (bs ++ [g]) ao n cap l := by
  have h1 := h.to (below_of_grown hg)
  refine ⟨h1.own, h1.len, fun b hb e' => ?_, fun b hb => ?_, h1.nil⟩
  · rcases List.mem_append.1 hb with hb | hb
    · exact h.far b hb e'
    · rw [List.mem_singleton] at hb
      have := (h.own.lt b e').2
      omega
  · rcases List.mem_append.1 hb with hb | hb
    · exact h1.lo b hb
    · rw [List.mem_singleton] at hb; omega
theorem Shr.two (h : Shr B w [] ao n cap l) (o o' : Obj) : Shr B ((w.alloc o).alloc o') [w.heap.size, w.heap.size + 1] ao n cap l :=
  (h.fresh (w' := w.alloc o) (grown_alloc _ _) rfl (by simp)).fresh (grown_alloc _ _) (by simp) (by simp)
theorem Loc.own (h : Loc B w0 w L) (hr : Shr B w bs ao n cap l) (hbs : ∀ e ∈ L, e.1 ∈ bs) (hb : w.grownBy w' (Value.slice ao n cap).ownBlock) : Loc B w0 w' L := by
  cases hv : (Value.slice ao n cap).ownBlock with
  | none => rw [hv] at hb; exact h.grown hb
  | some r =>
    rw [hv] at hb
    exact h.row hb (hr.own.lt r hv).1 (fun e he q => hr.far e.1 (hbs e he) (by rw [hv, q]))
end
/-- append(row, shot): the literal's block is new. -/
theorem wpList_append_new {B : Nat} {w0 w : World} {L : List (Nat × TypeId × Array Value)} {bs : List Nat} {ao : Option Addr} {n cap : Nat} {l : List Sh} {ops : Array Oper} {rest : List Oper} {o : Oper} {a : Act} {Q : Exit → Act → World → Prop} (hgd : o.guard = none) (s x : Operand)
    (ho : o.op = .call { callee := .builtin .append, args := #[s, x], argTypes := #[26, 26] }) (hs : a.eval s = .slice ao n cap) (z : Sh) (cs : Array Value) (hcs : cs.toList = Hcs z) (hx : a.eval x = .slice (some ⟨w.heap.size, 0, none⟩) 1 1)
    (hR : Shr B w bs ao n cap l) (hL : Loc B w0 w L) (hbs : ∀ e ∈ L, e.1 ∈ bs) (hn : n ≤ 1000000)
    (h : ∀ r cap' w', Shr B w' bs (some ⟨r, 0, none⟩) (n + 1) cap' (l ++ [z]) → Loc B w0 w' L → wpList Tryd.prog ops Q rest (a.put o.dst (.slice (some ⟨r, 0, none⟩) (n + 1) cap')) w') :
    wpList Tryd.prog ops Q (o :: rest) a (w.alloc (.cells cs 66)) := by
  obtain ⟨i0, hi0, hz0, hz1, hz2⟩ := info_parts info_Shot
  have hal : w.grownBy (w.alloc (.cells cs 66)) none := grown_alloc _ _
  have hR1 : Shr B (w.alloc (.cells cs 66)) bs ao n cap l := hR.to (below_of_grown hal)
  have hL1 : Loc B w0 (w.alloc (.cells cs 66)) L := hL.grown hal
  have hc : Cells (w.alloc (.cells cs 66)) w.heap.size 66 cs := Cells.made w _ _
  have hlen : cs.toList.length = 6 := by rw [hcs]; rfl
  refine wpList_append_lies (w.alloc (.cells cs 66)) hgd s x 26 ho B 66 i0 (.agg #[.int .i32 0, .int .i32 0, .int .i32 0, .int .i32 0, .int .u8 0, .int .u8 0]) 6 20 Tryd.underlying26 hi0 hz0 hz1 hz2 rfl (by decide) (.slice ao n cap) n (Hall l) hs hR1.own ⟨w.heap.size, 0, none⟩ 1 1 (Hcs z) hx rfl (fun j u hu => ?_) (fun u hu => ?_) (by decide) (by simp only [maxLen]; omega) (by omega) (by have := hL1.size; exact this) _ rfl ?_
  · have hadd : (⟨w.heap.size, 0, none⟩ : Addr).add j = ⟨w.heap.size, j, none⟩ := by unfold Addr.add; split <;> simp_all
    rw [hadd, hc.cell, ← Array.getElem?_toList, hcs]; exact hu
  · exact Hall_one [z] u (by simpa [Hall] using hu)
  · intro g' cap' w1 hown1 hgr hat hlt1
    rw [← Hall_snoc] at hown1
    refine h g' cap' w1 ⟨hown1, by simp [hR.len], fun b hb e => ?_, fun b hb => Nat.lt_of_lt_of_le (hR1.lo b hb) hgr.size, fun e => by cases e⟩ (hL1.own hR1 hbs hgr)
    have e : g' = b := by simpa [Value.ownBlock] using e
    subst e
    rcases hat with hat | hat
    · exact hR.far g' hb hat
    · have h1 := hR1.lo g' hb
      omega
end Go.Proofs.YtgmbdadkahcpcaaDoor
