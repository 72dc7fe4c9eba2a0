/- Bytes and pairs in blocks of the call's own: what []byte(s) makes, what append(nil, l...) makes, an element turned. Words on memory; nothing of the program but the shapes of its types. -/
import Derived.Test.YtgmbdadkahcpcaaDoorVp
import Derived.Deep.AppendLies
import Derived.Laws.StructEq
import Derived.ChangeKeysEq
namespace Go.Proofs.YtgmbdadkahcpcaaDoor
open Go.RowKit
set_option linter.unusedVariables false
set_option maxRecDepth 20000

/-- Block g holds these bytes at its beginning, none of them frozen. -/
def Byb (w : World) (g : Nat) (e : TypeId) (bs : List UInt8) : Prop :=
  ∃ cs fr, w.heap[g]? = some (.cells cs e fr) ∧ bs.length ≤ fr.1 ∧ ∀ i (h : i < bs.length), cs[i]? = some (bv (bs[i]'h))
section
variable {w w' : World} {g : Nat} {e : TypeId} {bs : List UInt8}
theorem Byb.cell (h : Byb w g e bs) (i : Nat) (hi : i < bs.length) : w.cell? ⟨g, i, none⟩ = some (.int .u8 ((bs[i]'hi).toNat : Nat)) := by
  obtain ⟨cs, fr, hh, _, hc⟩ := h
  rw [cell_of_row w g i cs e fr hh, hc i hi]
  rfl
theorem Byb.frozen (h : Byb w g e bs) (i : Nat) (hi : i < bs.length) : w.frozen? ⟨g, i, none⟩ = false := by
  obtain ⟨cs, ⟨lo, up⟩, hh, hl, hc⟩ := h
  simp only [World.frozen?, hh]
  simp only at hl
  simp
  omega
theorem Byb.set (h : Byb w g e bs) (i : Nat) (b : UInt8) : Byb (w.setCell ⟨g, i, none⟩ (.int .u8 (b.toNat : Nat))) g e (bs.set i b) := by
  obtain ⟨cs, fr, hh, hl, hc⟩ := h
  refine ⟨cs.setIfInBounds i (.int .u8 (b.toNat : Nat)), fr, ?_, by simpa using hl, fun j hj => ?_⟩
  · simp [World.setCell, Array.getElem?_modify, hh]
  · have hj' : j < bs.length := by simpa using hj
    have hcj := hc j hj'
    by_cases hij : i = j
    · subst hij
      have hlt := (Array.getElem?_eq_some_iff.1 hcj).1
      simp [hlt, bv]
    · rw [Array.getElem?_setIfInBounds_ne hij, hcj, List.getElem_set_ne hij]
theorem Byb.drewN (h : Byb w g e bs) (n : Nat) : Byb (w.drewN n) g e bs := h
theorem Byb.drew (h : Byb w g e bs) : Byb w.drew g e bs := h
end
theorem byb_bytes (w : World) (e : TypeId) (s : List UInt8) : Byb (Lib.bytesWorld w e (str s)) w.heap.size e s := by
  refine ⟨_, _, Lib.bytesWorld_at_new w e (str s), ?_, fun i hi => ?_⟩
  · simp [Lib.bytesCells, str]
  · simp [Lib.bytesCells, str, bv, Array.getElem?_append, hi]
theorem Byb.below {w w' : World} {g B : Nat} {e : TypeId} {bs : List UInt8} (h : Byb w g e bs) (hb : Below B w w') (hg : g < B) : Byb w' g e bs := by
  obtain ⟨cs, fr, hh, hl, hc⟩ := h
  exact ⟨cs, fr, (hb.block g hg).trans hh, hl, hc⟩
/-- One of a pair's two cells. -/
def pvc (r : Nat) (p : Nat × Nat) : Value := if r = 0 then .int .u8 (p.1 : Int) else .int .u8 (p.2 : Int)
def prc : List (Nat × Nat) → List Value
  | [] => []
  | p :: l => .int .u8 (p.1 : Int) :: .int .u8 (p.2 : Int) :: prc l
theorem prc_get : ∀ (l : List (Nat × Nat)) (i : Nat), (prc l)[i]? = (l[i / 2]?).map (pvc (i % 2))
  | [], i => by simp [prc]
  | p :: l, 0 => rfl
  | p :: l, 1 => rfl
  | p :: l, i + 2 => by
    have h1 : (i + 2) / 2 = i / 2 + 1 := by omega
    have h2 : (i + 2) % 2 = i % 2 := by omega
    rw [h1, h2, List.getElem?_cons_succ, ← prc_get l i]
    rfl
theorem prc_len : ∀ (l : List (Nat × Nat)), (prc l).length = l.length * 2
  | [] => rfl
  | p :: l => by simp [prc, prc_len l]; omega
theorem prc_one (l : List (Nat × Nat)) : ∀ u ∈ prc l, u.oneCell' = true := fun u hu => by
  obtain ⟨i, hi, rfl⟩ := List.getElem_of_mem hu
  have h := prc_get l i
  rw [List.getElem?_eq_getElem hi] at h
  obtain ⟨p, _, hp⟩ := Option.map_eq_some_iff.1 h.symm
  rw [← hp]
  unfold pvc
  split <;> rfl
theorem prc_news {w : World} {b o : Nat} {l : List (Nat × Nat)} (h : Pis w (some ⟨b, o, none⟩) l) : ∀ j u, (prc l)[j]? = some u → w.cell? ((⟨b, o, none⟩ : Addr).add j) = some u := fun j u hu => by
  rw [prc_get] at hu
  obtain ⟨p, hp, rfl⟩ := Option.map_eq_some_iff.1 hu
  obtain ⟨hk, rfl⟩ := List.getElem?_eq_some_iff.1 hp
  obtain ⟨_, _, b', o', e, h0, h1⟩ := h (j / 2) hk
  obtain ⟨rfl, rfl⟩ : b = b' ∧ o = o' := by
    injection e with e
    injection e with e1 e2
    exact ⟨e1, e2⟩
  have ea : (⟨b, o, none⟩ : Addr).add j = ⟨b, o + j, none⟩ := by unfold Addr.add; split <;> simp_all
  rw [ea]
  have h2 : j % 2 = 0 ∨ j % 2 = 1 := by omega
  rcases h2 with h2 | h2
  · rw [show o + j = o + j / 2 * 2 by omega, h0, pvc, if_pos h2]
  · rw [show o + j = o + j / 2 * 2 + 1 by omega, h1, pvc, if_neg (by omega)]
theorem pis_cells {w : World} {g : Nat} {t : TypeId} {cs : Array Value} {l : List (Nat × Nat)} (h : Cells w g t cs) (hc : cs.toList.take (l.length * 2) = prc l) (hf : ∀ p ∈ l, p.1 < 256 ∧ p.2 < 256) : Pis w (some ⟨g, 0, none⟩) l := fun k hk => by
  have hp := hf _ (List.getElem_mem hk)
  have at_ : ∀ i, i < l.length * 2 → cs[i]? = (prc l)[i]? := fun i hi => by
    rw [← hc, List.getElem?_take, if_pos hi, Array.getElem?_toList]
  refine ⟨hp.1, hp.2, g, 0, rfl, ?_, ?_⟩
  · rw [h.cell, at_ _ (by omega), prc_get]
    rw [show (0 + k * 2) / 2 = k by omega, show (0 + k * 2) % 2 = 0 by omega, List.getElem?_eq_getElem hk]
    rfl
  · rw [h.cell, at_ _ (by omega), prc_get]
    rw [show (0 + k * 2 + 1) / 2 = k by omega, show (0 + k * 2 + 1) % 2 = 1 by omega, List.getElem?_eq_getElem hk]
    rfl
theorem prc_set {xs : List Value} {l : List (Nat × Nat)} (h : xs.take (l.length * 2) = prc l) (k : Nat) (hk : k < l.length) (p q : Nat) :
    (xs.take (k * 2) ++ [Value.int .u8 (p : Int), Value.int .u8 (q : Int)] ++ xs.drop (k * 2 + 2)).take ((l.set k (p, q)).length * 2) = prc (l.set k (p, q)) := by
  have hxl : l.length * 2 ≤ xs.length := by
    have := congrArg List.length h
    rw [List.length_take, prc_len] at this
    omega
  have at_ : ∀ i, i < l.length * 2 → xs[i]? = (prc l)[i]? := fun i hi => by
    rw [← h, List.getElem?_take, if_pos hi]
  apply List.ext_getElem?
  intro i
  rw [List.length_set, List.getElem?_take, prc_get, List.getElem?_set]
  split
  · rename_i hi
    have hkl : (xs.take (k * 2)).length = k * 2 := by rw [List.length_take]; omega
    rw [List.append_assoc]
    by_cases h1 : i < k * 2
    · rw [List.getElem?_append_left (by omega), List.getElem?_take, if_pos h1, at_ i hi, prc_get, if_neg (by omega)]
    · rw [List.getElem?_append_right (by omega), hkl]
      by_cases h2 : i < k * 2 + 2
      · rw [if_pos (by omega)]
        have h3 : i = k * 2 ∨ i = k * 2 + 1 := by omega
        rcases h3 with rfl | rfl
        · rw [show k * 2 - k * 2 = 0 by omega, show k * 2 % 2 = 0 by omega]; rfl
        · rw [show k * 2 + 1 - k * 2 = 1 by omega, show (k * 2 + 1) % 2 = 1 by omega]; rfl
      · rw [List.getElem?_append_right (by simp; omega), List.getElem?_drop, if_neg (by omega)]
        rw [show k * 2 + 2 + (i - k * 2 - [Value.int IntKind.u8 (p : Int), Value.int IntKind.u8 (q : Int)].length) = i by simp; omega, at_ i hi, prc_get]
  · rw [if_neg (by omega), List.getElem?_eq_none (by omega)]; rfl
theorem info_Pair : (Tryd.prog.info? 47).map (fun i => (i.zero, i.size, i.bytes)) = some (some (.agg #[.int .u8 0, .int .u8 0]), 2, 2) := by kernel_rfl
theorem Loc.join {B : Nat} {w0 w : World} {L : List (Nat × TypeId × Array Value)} {g : Nat} {t : TypeId} {cs : Array Value} (h : Loc B w0 w L) (hc : Cells w g t cs) (hg : B ≤ g) (hn : ∀ e ∈ L, e.1 ≠ g) : Loc B w0 w (L ++ [(g, t, cs)]) :=
  ⟨h.hb, h.be, fun e he => by
      rcases List.mem_append.1 he with he | he
      · exact h.ge e he
      · rw [List.mem_singleton] at he; subst he; exact hg,
    by
      rw [List.map_append, List.nodup_append]
      refine ⟨h.nd, by simp, fun a ha b hb => ?_⟩
      obtain ⟨e, he, rfl⟩ := List.mem_map.1 ha
      simp at hb
      subst hb
      exact hn e he,
    fun e he => by
      rcases List.mem_append.1 he with he | he
      · exact h.cs e he
      · rw [List.mem_singleton] at he; subst he; exact hc⟩
/-- append(nil, l...) of a list that is not empty: a block of its own. -/
theorem wpList_append_pis {w : World} {ops : Array Oper} {rest : List Oper} {o : Oper} {a : Act} {Q : Exit → Act → World → Prop} {B : Nat} {w0 : World} {L : List (Nat × TypeId × Array Value)} (hgd : o.guard = none) (s x : Operand)
    (ho : o.op = .call { callee := .builtin .append, args := #[s, x], argTypes := #[31, 31] }) (lo : Option Addr) (cap : Nat) (l : List (Nat × Nat)) (hs : a.eval s = .slice none 0 0) (hx : a.eval x = .slice lo l.length cap)
    (hsh : Pis w lo l) (h0 : 0 < l.length) (hl : l.length ≤ 1000000) (hL : Loc B w0 w L)
    (h : ∀ g cs cap' w', Loc B w0 w' (L ++ [(g, 47, cs)]) → cs.toList.take (l.length * 2) = prc l → l.length * 2 ≤ cs.size → wpList Tryd.prog ops Q rest (a.put o.dst (.slice (some ⟨g, 0, none⟩) l.length cap')) w') :
    wpList Tryd.prog ops Q (o :: rest) a w := by
  obtain ⟨i0, hi0, hz0, hz1, hz2⟩ := info_parts info_Pair
  have hown : w.ownsRow w.heap.size 47 2 (.slice none 0 0) 0 [] := World.ownsRow_nil _ _ _ _
  obtain ⟨_, _, b, o', rfl, _⟩ := hsh 0 (by omega)
  refine wpList_append_lies w hgd s x 31 ho w.heap.size 47 i0 (.agg #[.int .u8 0, .int .u8 0]) 2 2 Tryd.underlying31 hi0 hz0 hz1 hz2 rfl (by decide) (.slice none 0 0) 0 [] hs hown ⟨b, o', none⟩ l.length cap (prc l) hx (prc_len l) (prc_news hsh) (prc_one l) h0 (by simp only [maxLen]; omega) (by omega) (Nat.le_refl _) _ rfl ?_
  intro g' cap' w1 hown1 hgr hat hlt1
  rw [Nat.zero_add, List.nil_append] at hown1
  rw [Nat.zero_add]
  rcases hown1.2 with ⟨_, hn⟩ | ⟨g, cap2, cur, he, hb, hh, hnc, _, hsz, htk⟩
  · omega
  · injection he with e1 e2 e3
    injection e1 with e1
    injection e1 with e1
    subst e1 e3
    have h1 : Loc B w0 w1 L := hL.grown hgr
    refine h g' cur cap' w1 (h1.join hh (Nat.le_trans hL.size hb) (fun e he q => ?_)) htk (by rw [hsz]; exact Nat.mul_le_mul_right 2 hnc)
    have := hL.low he
    omega
theorem pair_eql (a b c d : Int) (w : World) : (binOp .eql 47 (.agg #[.int .u8 a, .int .u8 b]) (.agg #[.int .u8 c, .int .u8 d])).run Tryd.prog w = .ok (.bool ((a == c) && (b == d))) w := by
  rw [run_eql_struct]
  have h1 : (Tryd.prog.info? 45).map (·.size) = some 1 := by kernel_rfl
  obtain ⟨i, hi, hs⟩ := Option.map_eq_some_iff.1 h1
  rw [run_equalIn_array w 9999 _ _ Tryd.underlying47 hi, show Tryd.prog.cellsOf 45 = 1 by kernel_rfl]
  simp only [show List.range 2 = [0, 1] from rfl, Op.eqItems]
  cases h0 : (a == c) <;> cases h1 : (b == d) <;> simp [go_sem, h0, h1]
end Go.Proofs.YtgmbdadkahcpcaaDoor
