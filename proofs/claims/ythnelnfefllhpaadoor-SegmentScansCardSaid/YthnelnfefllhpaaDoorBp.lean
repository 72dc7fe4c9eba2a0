/- A row of inputs of one's own that is gone along: its first one cut off, one more appended. -/
import Derived.Test.YthnelnfefllhpaaDoorBm
import Derived.Laws.Append
import Derived.Laws.AppendOwn
namespace Go.Proofs.YthnelnfefllhpaaDoor
open Go.RowKit
set_option linter.unusedVariables false
set_option linter.unusedSimpArgs false
set_option maxRecDepth 20000

theorem info_inp : (Tryd.prog.info? 24).map (fun i => (i.zero, i.size, i.bytes)) = some (some (.int .u8 0), 1, 1) := by kernel_rfl
/-- Inputs in a row of one's own, from any place of it on. -/
structure QRow (B : Nat) (w : World) (bs : List Nat) (ao : Option Addr) (n cap : Nat) (xs : List Nat) : Prop where
  len : xs.length = n
  own : (ao = none ∧ n = 0 ∧ cap = 0) ∨ ∃ g o cur, ao = some ⟨g, o, none⟩ ∧ B ≤ g ∧ (∀ b ∈ bs, b ≠ g) ∧ w.heap[g]? = some (.cells cur 24 (0, 0)) ∧ n ≤ cap ∧ cap ≤ maxLen ∧ o + cap ≤ cur.size ∧ ∀ j (h : j < xs.length), cur[o + j]? = some (.int .u8 ((xs[j]'h : Nat) : Int))
  lo : ∀ b ∈ bs, b < w.heap.size
section
variable {B B0 : Nat} {w0 w w' : World} {L L' : List (Nat × TypeId × Array Value)} {bs : List Nat} {ao : Option Addr} {n cap : Nat} {xs : List Nat}
theorem QRow.nil (B : Nat) (w : World) (bs : List Nat) (hl : ∀ b ∈ bs, b < w.heap.size) : QRow B w bs none 0 0 [] := ⟨rfl, .inl ⟨rfl, rfl, rfl⟩, hl⟩
theorem QRow.to (h : QRow B w bs ao n cap xs) (hb : Below w.heap.size w w') : QRow B w' bs ao n cap xs :=
  ⟨h.len, h.own.imp id fun ⟨g, o, cur, h1, h2, h3, h4, h5⟩ => ⟨g, o, cur, h1, h2, h3, (hb.block g (Array.getElem?_eq_some_iff.1 h4).1).trans h4, h5⟩, fun b hbb => Nat.lt_of_lt_of_le (h.lo b hbb) hb.size⟩
theorem QRow.turn (h : QRow B w bs ao n cap xs) {k : Nat} (hk : k ∈ bs) (hb : w.grownBy w' (some k)) : QRow B w' bs ao n cap xs :=
  ⟨h.len, h.own.imp id fun ⟨g, o, cur, h1, h2, h3, h4, h5⟩ => ⟨g, o, cur, h1, h2, h3, (hb.block g (Array.getElem?_eq_some_iff.1 h4).1 (fun e => h3 k hk (Option.some.inj e).symm)).trans h4, h5⟩, fun b hbb => Nat.lt_of_lt_of_le (h.lo b hbb) hb.size⟩
theorem QRow.less (h : QRow B w bs ao n cap xs) {bs' : List Nat} (hs : ∀ b ∈ bs', b ∈ bs) : QRow B w bs' ao n cap xs :=
  ⟨h.len, h.own.imp id fun ⟨g, o, cur, h1, h2, h3, h4⟩ => ⟨g, o, cur, h1, h2, fun b hb => h3 b (hs b hb), h4⟩, fun b hb => h.lo b (hs b hb)⟩
theorem QRow.fresh (h : QRow B w bs ao n cap xs) (hg : Below w.heap.size w w') {g : Nat} (e : w.heap.size ≤ g) (hlt : g < w'.heap.size) : QRow B w' (bs ++ [g]) ao n cap xs := by
  have h1 := h.to hg
  refine ⟨h1.len, ?_, fun b hb => ?_⟩
  · rcases h.own with h2 | ⟨g', o, cur, e1, e2, e3, e4, e5⟩
    · exact .inl h2
    · have hlt' := (Array.getElem?_eq_some_iff.1 e4).1
      refine .inr ⟨g', o, cur, e1, e2, fun b hb => ?_, (hg.block g' hlt').trans e4, e5⟩
      rcases List.mem_append.1 hb with hb | hb
      · exact e3 b hb
      · rw [List.mem_singleton] at hb; omega
  · rcases List.mem_append.1 hb with hb | hb
    · exact h1.lo b hb
    · rw [List.mem_singleton] at hb; omega
/-- The row's own block alone turns. -/
theorem QRow.caps (h : QRow B w bs ao n cap xs) : n ≤ cap ∧ cap ≤ maxLen := by
  rcases h.own with ⟨_, h1, h2⟩ | ⟨_, _, _, _, _, _, _, h1, h2, _⟩
  · subst h1 h2; exact ⟨Nat.le_refl _, Nat.zero_le _⟩
  · exact ⟨h1, h2⟩
/-- One of them. -/
theorem QRow.at (h : QRow B w bs ao n cap xs) {j : Nat} (hj : j < xs.length) : ∃ g o, ao = some ⟨g, o, none⟩ ∧ w.cell? ⟨g, o + j, none⟩ = some (.int .u8 ((xs[j]'hj : Nat) : Int)) := by
  rcases h.own with ⟨_, h1, _⟩ | ⟨g, o, cur, e1, e2, e3, e4, e5, e6, e7, e8⟩
  · have := h.len; omega
  · exact ⟨g, o, e1, by rw [cell_of_row w g (o + j) cur _ (0, 0) e4]; exact e8 j hj⟩
/-- Without the first one. -/
theorem QRow.tail {x : Nat} (h : QRow B w bs ao n cap (x :: xs)) : ∃ g o, ao = some ⟨g, o, none⟩ ∧ ∀ ao', (ao' = some ⟨g, o, none⟩ ∧ cap = 1) ∨ (ao' = some ⟨g, o + 1, none⟩ ∧ cap ≠ 1) → QRow B w bs ao' (n - 1) (cap - 1) xs := by
  rcases h.own with ⟨_, h1, _⟩ | ⟨g, o, cur, e1, e2, e3, e4, e5, e6, e7, e8⟩
  · have := h.len; simp at this; omega
  · have hlen := h.len
    simp only [List.length_cons] at hlen
    refine ⟨g, o, e1, fun ao' ha => ⟨by omega, .inr ?_, h.lo⟩⟩
    rcases ha with ⟨rfl, hc⟩ | ⟨rfl, hc⟩
    · refine ⟨g, o, cur, rfl, e2, e3, e4, by omega, by omega, by omega, fun j hj => ?_⟩
      omega
    · refine ⟨g, o + 1, cur, rfl, e2, e3, e4, by omega, by omega, by omega, fun j hj => ?_⟩
      have := e8 (j + 1) (by simp; omega)
      rw [show o + 1 + j = o + (j + 1) by omega, this]
      rfl
theorem Loc.ownQ (h : Loc B0 w0 w L) (hB : B0 ≤ B) (hq : QRow B w bs ao n cap xs) (hbs : ∀ e ∈ L, e.1 ∈ bs) (hb : w.grownBy w' (ao.map (·.block))) : Loc B0 w0 w' L := by
  rcases hq.own with ⟨rfl, _, _⟩ | ⟨g, o, cur, rfl, e2, e3, _⟩
  · exact h.grown hb
  · exact h.row hb (Nat.le_trans hB e2) (fun e he q => e3 e.1 (hbs e he) q)
/-- append, where there is room. -/
theorem run_append_at {P : Program} (w : World) (t ty e : TypeId) (i : TypeInfo) (ht : P.underlying t = some (.slice e)) (hi : P.info? e = some i) (hs : i.size = 1)
    (g o sLen sCap : Nat) (cur : Array Value) (hg : w.heap[g]? = some (.cells cur e (0, 0)))
    (a : Addr) (c : Nat) (u : Value) (hnews : w.cell? (a.add 0) = some u) (h1 : u.oneCell' = true)
    (hroom : sLen + 1 ≤ sCap) (hfit : o + sLen + 1 ≤ cur.size) :
    (Builtin.append_ #[t, t] ty #[.slice (some ⟨g, o, none⟩) sLen sCap, .slice (some a) 1 c]).run P w =
      .ok (.slice (some ⟨g, o, none⟩) (sLen + 1) sCap) (w.setRow g (cur.toList.take (o + sLen) ++ [u] ++ cur.toList.drop (o + sLen + 1)).toArray) := by
  have hf := run_firstCells_some (P := P) w i.size 1 a 1 c [u] (by simp [hs]) (fun j v hv => by
    cases j with
    | zero => cases hv; exact hnews
    | succ j => simp at hv)
  have hst := run_storeCells_at P g (o + sLen) e [u] 0 cur w hg (by simpa using hfit) (fun v hv => by rw [List.mem_singleton] at hv; subst hv; exact h1)
  simp only [Nat.add_zero] at hst
  have hadd : (⟨g, o, none⟩ : Addr).add (sLen * i.size) = ⟨g, o + sLen, none⟩ := by unfold Addr.add; simp [hs]
  rw [hs] at hf
  have hst2 : (storeCells ⟨g, o + sLen, none⟩ [u]).run P w = .ok () (w.setRow g (cur.toList.take (o + sLen) ++ [u] ++ cur.toList.drop (o + sLen + 1)).toArray) := hst
  simp [Builtin.append_, run_underlying ht, sizeOf, typeInfo, hi, Builtin.lenOf, hroom, hs, Addr.add_lit, hf, hst2]
theorem app_q {P : Program} (t : TypeId) (ht : Tryd.prog.underlying t = some (.slice 24)) (ty : TypeId) (hq : QRow B w bs ao n cap xs) (hn : n ≤ 1000000) (hB : B ≤ w.heap.size) (ad : Addr) (c x : Nat) (hx : w.cell? (ad.add 0) = some (.int .u8 (x : Int))) :
    ∃ ao' cap' w', (Builtin.append_ #[t, t] ty #[.slice ao n cap, .slice (some ad) 1 c]).run Tryd.prog w = .ok (.slice ao' (n + 1) cap') w' ∧ QRow B w' bs ao' (n + 1) cap' (xs ++ [x]) ∧ w.grownBy w' (ao.map (·.block)) := by
  obtain ⟨i0, hi0, hz0, hz1, hz2⟩ := info_parts info_inp
  have hnews : ∀ j v, ([Value.int .u8 (x : Int)] : List Value)[j]? = some v → w.cell? (ad.add j) = some v := fun j v hv => by
    cases j with
    | zero => cases hv; exact hx
    | succ j => simp at hv
  have hmade : ∀ (k : Nat) (cs : Array Value) (cap' : Nat), n + 1 ≤ cap' → cap' ≤ maxLen → cs.size = cap' → (∀ j (h : j < (xs ++ [x]).length), cs[0 + j]? = some (.int .u8 (((xs ++ [x])[j]'h : Nat) : Int))) →
      QRow B (w.drew.alloc (.cells cs 24)) bs (some ⟨w.heap.size, 0, Option.none⟩) (n + 1) cap' (xs ++ [x]) := fun k cs cap' h1 h2 h3 h4 =>
    ⟨by simp [hq.len], .inr ⟨w.heap.size, 0, cs, rfl, hB, fun b hb => Nat.ne_of_lt (hq.lo b hb), heap_alloc_new w.drew _, h1, h2, by omega, h4⟩, fun b hb => by have := hq.lo b hb; simp; omega⟩
  have hold : ∀ (xs : List Nat) (z : Array Value) j (h : j < (xs ++ [x]).length), ((xs.map fun y : Nat => Value.int .u8 (y : Int)).toArray ++ #[Value.int .u8 (x : Int)] ++ z)[0 + j]? = some (.int .u8 (((xs ++ [x])[j]'h : Nat) : Int)) := fun xs z j h => by
    rw [Nat.zero_add]
    have e : ((xs.map fun y : Nat => Value.int .u8 (y : Int)).toArray ++ #[Value.int .u8 (x : Int)] ++ z) = ((xs ++ [x]).map fun y : Nat => Value.int .u8 (y : Int)).toArray ++ z := by simp
    rw [e, Array.getElem?_append_left (by simpa using h), List.getElem?_toArray, List.getElem?_map, List.getElem?_eq_getElem h]
    rfl
  rcases hq.own with ⟨rfl, rfl, rfl⟩ | ⟨g, o, cur, rfl, e2, e3, e4, e5, e6, e7, e8⟩
  · have hx0 : xs = [] := List.eq_nil_of_length_eq_zero hq.len
    subst hx0
    have hr := run_append_nil w t ty 24 i0 (.int .u8 0) ht hi0 hz0 ad 1 c [.int .u8 (x : Int)] (by rw [hz1]; rfl) hnews (by omega) (by omega) (by rw [hz2]; omega)
    refine ⟨_, _, _, hr, ?_, ⟨rfl, rfl, rfl, by simp, fun k hk _ => Below.heap_alloc _ _ _ hk⟩⟩
    refine hmade 0 _ _ (grownCap_ge w 1 0 _) (grownCap_le_maxLen w 1 0 _ (by simp [maxLen])) ?_ ?_
    · have := grownCap_ge w 1 0 24
      simp [size_zeroCells, Value.cells]; omega
    · have := hold [] (Builtin.zeroCells (Value.int .u8 0).cells (grownCap w 1 0 24 - 1))
      simpa using this
  · rcases Nat.lt_or_ge n cap with hlt | hge
    · have hr := run_append_at w t ty 24 i0 ht hi0 hz1 g o n cap cur e4 ad c (.int .u8 (x : Int)) hx rfl (by omega) (by omega)
      refine ⟨_, _, _, hr, ⟨by simp [hq.len], .inr ⟨g, o, _, rfl, e2, e3, setRow_heap _ _ _ _ _ _ e4, by omega, e6, ?_, fun j hj => ?_⟩, fun b hb => by have := hq.lo b hb; simp [World.setRow]; omega⟩, grown_setRow _ _ _⟩
      · simp; omega
      · simp only [List.length_append, List.length_singleton] at hj
        have hln := hq.len
        simp only [List.getElem?_toArray]
        rw [List.append_assoc, List.getElem?_append]
        rcases Nat.lt_or_ge j n with hj2 | hj2
        · rw [if_pos (by simp; omega), List.getElem?_take, if_pos (by omega)]
          have := e8 j (by omega)
          rw [Array.getElem?_toList, this, List.getElem_append_left (by omega)]
        · obtain rfl : j = n := by omega
          rw [if_neg (by simp; omega)]
          simp only [List.length_take, Array.length_toList]
          rw [show o + j - min (o + j) cur.size = 0 by omega]
          simp [List.getElem_append_right, hln]
    · have hr := run_append_grow w t ty 24 i0 (.int .u8 0) ht hi0 hz0 ⟨g, o, Option.none⟩ n cap (xs.map fun y : Nat => Value.int .u8 (y : Int)) (by rw [hz1, List.length_map, hq.len, Nat.mul_one]) (fun j v hv => by
        have hj : j < xs.length := by
          rcases Nat.lt_or_ge j xs.length with h | h
          · exact h
          · rw [List.getElem?_eq_none (by simpa using h)] at hv; cases hv
        have hadd : (⟨g, o, Option.none⟩ : Addr).add j = ⟨g, o + j, Option.none⟩ := by unfold Addr.add; split <;> simp_all
        rw [hadd, cell_of_row w g (o + j) cur _ (0, 0) e4, e8 j hj, ← hv]
        simp [hj]) ad 1 c [.int .u8 (x : Int)] (by rw [hz1]; rfl) hnews (by omega) (by omega) (by rw [hz2]; have := growslice_fits (need := n + 1) (old := cap) (bytes := 1) (by omega) (by omega); omega)
      refine ⟨_, _, _, hr, ?_, ⟨rfl, rfl, rfl, by simp, fun k hk _ => Below.heap_alloc _ _ _ hk⟩⟩
      refine hmade 0 _ _ (grownCap_ge w (n + 1) cap _) (grownCap_le_maxLen w (n + 1) cap _ (by simp only [maxLen]; omega)) ?_ (hold xs _)
      have := grownCap_ge w (n + 1) cap 24
      have hln := hq.len
      simp [size_zeroCells, Value.cells]; omega
theorem wpList_append_q {ops : Array Oper} {rest : List Oper} {o : Oper} {a : Act} {Q : Exit → Act → World → Prop} (hgd : o.guard = .none) (s x : Operand) (t : TypeId) (ht : Tryd.prog.underlying t = some (.slice 24))
    (ho : o.op = .call { callee := .builtin .append, args := #[s, x], argTypes := #[t, t] }) (hs : a.eval s = .slice ao n cap) (z : Nat) (hx : a.eval x = .slice (some ⟨w.heap.size, 0, .none⟩) 1 1)
    (hq : QRow B w bs ao n cap xs) (hL : Loc B0 w0 w L) (hB : B0 ≤ B) (hB2 : B ≤ w.heap.size) (hbs : ∀ e ∈ L, e.1 ∈ bs) (hn : n ≤ 1000000)
    (h : ∀ ao' cap' w', QRow B w' bs ao' (n + 1) cap' (xs ++ [z]) → Loc B0 w0 w' L → (w.alloc (.cells #[.int .u8 (z : Int)] 24)).grownBy w' (ao.map (·.block)) → wpList Tryd.prog ops Q rest (a.put o.dst (.slice ao' (n + 1) cap')) w') :
    wpList Tryd.prog ops Q (o :: rest) a (w.alloc (.cells #[.int .u8 (z : Int)] 24)) := by
  refine wpList_plain hgd fun K hK => ?_
  have hal := below_alloc w (.cells #[.int .u8 (z : Int)] 24)
  have hc : (w.alloc (.cells #[.int .u8 (z : Int)] 24)).cell? ((⟨w.heap.size, 0, .none⟩ : Addr).add 0) = some (.int .u8 (z : Int)) := by
    have := (Cells.made w 24 #[.int .u8 (z : Int)]).cell 0
    simp [Addr.add]
  obtain ⟨ao', cap', w', hr, h2, h3⟩ := app_q (P := Tryd.prog) t ht o.type (hq.to hal) hn (Nat.le_trans hB2 hal.size) ⟨w.heap.size, 0, .none⟩ 1 z hc
  unfold Oper.wp execOp
  simp only [ho, resolve, invoke, builtin, Sem.run_bind, Sem.run_pure, Result.andThen_ok, List.map_toArray, List.map_cons, List.map_nil, hs, hx, hr]
  exact hK _ _ (h ao' cap' w' h2 ((hL.to hal).ownQ hB (hq.to hal) hbs h3) h3)
end
end Go.Proofs.YthnelnfefllhpaaDoor
