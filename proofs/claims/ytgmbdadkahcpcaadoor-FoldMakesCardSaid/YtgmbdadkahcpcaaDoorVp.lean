/- Pairs in a slice: read where they lie; a slice of pairs as an argument. Nothing of the program but the shapes of its types. -/
import Derived.Test.YtgmbdadkahcpcaaDoorTk
namespace Go.Proofs.YtgmbdadkahcpcaaDoor
open Go.ChangeShapes Go.WideShapes Go.RowKit Go.Deep
set_option linter.unusedVariables false
set_option maxRecDepth 20000

theorem run_ldP {T : TypeId} {n : Nat} (ty : TyA T n) {w : World} {g o : Nat} (vs : List Value) (hn : vs.length = n) (h : ∀ j v, vs[j]? = some v → w.cell? ⟨g, o + j, none⟩ = some v) :
    (ldT T (.pointer (some ⟨g, o, none⟩))).run Tryd.prog w = .ok (.agg vs.toArray) w := by
  have hl := run_loadCells_list (P := Tryd.prog) w ⟨g, o, none⟩ vs (fun j v hv => by
    have hadd : (⟨g, o, none⟩ : Addr).add j = ⟨g, o + j, none⟩ := by unfold Addr.add; split <;> simp_all
    rw [hadd]; exact h j v hv)
  rw [hn] at hl
  obtain ⟨i, hi, hs⟩ := Option.map_eq_some_iff.1 ty.info
  simp [ldT, Instr.loadAt, Instr.sureAddr, loadVar, ty.agg w, sizeOf, typeInfo, hi, hs, hl]
/-- Pairs can be read at this address. -/
def Pis (w : World) (lo : Option Addr) (l : List (Nat × Nat)) : Prop :=
  ∀ k (h : k < l.length), (l[k]'h).1 < 256 ∧ (l[k]'h).2 < 256 ∧ ∃ b o, lo = some ⟨b, o, none⟩ ∧ w.cell? ⟨b, o + k * 2, none⟩ = some (.int .u8 ((l[k]'h).1 : Int)) ∧ w.cell? ⟨b, o + k * 2 + 1, none⟩ = some (.int .u8 ((l[k]'h).2 : Int))
theorem pis_ld {w w' : World} {b o : Nat} {l : List (Nat × Nat)} (h : Pis w (some ⟨b, o, none⟩) l) (hb : Below w.heap.size w w') (k : Nat) (hk : k < l.length) {i j : Nat} (hx : l[k]'hk = (i, j)) :
    (ldT 47 (.pointer (some ⟨b, o + k * 2, none⟩))).run Tryd.prog w' = .ok (.agg #[.int .u8 (i : Int), .int .u8 (j : Int)]) w' := by
  obtain ⟨_, _, b', o', e, h0, h1⟩ := h k hk
  obtain ⟨rfl, rfl⟩ : b = b' ∧ o = o' := by
    injection e with e
    injection e with e1 e2
    exact ⟨e1, e2⟩
  have hlt : b < w.heap.size := World.block_lt_of_cell? w _ h0
  rw [hx] at h0 h1
  refine run_ldP ty_pair [_, _] rfl (fun q v hv => ?_)
  match q, hv with
  | 0, hv => rw [Nat.add_zero]; exact (hb.cell (p := ⟨b, o + k * 2, none⟩) hlt).trans (h0.trans hv)
  | 1, hv => exact (hb.cell (p := ⟨b, o + k * 2 + 1, none⟩) hlt).trans (h1.trans hv)
theorem Pis.to {w w' : World} {lo : Option Addr} {l : List (Nat × Nat)} (h : Pis w lo l) (hb : Below w.heap.size w w') : Pis w' lo l := fun k hk => by
  obtain ⟨h1, h2, b, o, e, h3, h4⟩ := h k hk
  have hlt : b < w.heap.size := World.block_lt_of_cell? w _ h3
  exact ⟨h1, h2, b, o, e, (hb.cell (p := ⟨b, o + k * 2, none⟩) hlt).trans h3, (hb.cell (p := ⟨b, o + k * 2 + 1, none⟩) hlt).trans h4⟩
theorem Pis.at {w : World} {lo : Option Addr} {l : List (Nat × Nat)} (h : Pis w lo l) (k : Nat) (hk : k < l.length) : ∃ b o i j, lo = some ⟨b, o, none⟩ ∧ i < 256 ∧ j < 256 ∧ l[k]'hk = (i, j) := by
  obtain ⟨h1, h2, b, o, e, _⟩ := h k hk
  exact ⟨b, o, _, _, e, h1, h2, rfl⟩
theorem Pis.take {w : World} {lo : Option Addr} {l : List (Nat × Nat)} (h : Pis w lo l) (n : Nat) : Pis w lo (l.take n) := fun k hk => by
  have hk' : k < l.length := Nat.lt_of_lt_of_le hk (by simp; omega)
  have := h k hk'
  rw [List.getElem_take]; exact this
theorem Pis.all {w : World} {lo : Option Addr} {l : List (Nat × Nat)} (h : Pis w lo l) : ∀ p ∈ l, p.1 < 256 ∧ p.2 < 256 := fun p hp => by
  obtain ⟨k, hk, rfl⟩ := List.getElem_of_mem hp
  obtain ⟨h1, h2, _⟩ := h k hk
  exact ⟨h1, h2⟩
theorem Pis.nil (w : World) (lo : Option Addr) : Pis w lo [] := fun k h => by simp at h
/-- A slice of pairs as it comes in. -/
def PiArg (w : World) (a : Option Addr) (len cap : Nat) (l : List (Nat × Nat)) : Prop := l.length = len ∧ len ≤ cap ∧ cap ≤ maxLen ∧ (a = none → cap = 0) ∧ Pis w a l
theorem b8_nat {n : Int} (h : (Lit.int .u8 n).wf = true) : ∃ k : Nat, n = k ∧ k < 256 := by
  have h2 : (decide (0 ≤ n) && decide (n ≤ 255)) = true := h
  simp only [Bool.and_eq_true, decide_eq_true_eq] at h2
  exact ⟨n.toNat, by omega, by omega⟩
section
variable {H : Type} {enc : TypeId × Value → H} {w : World} {base : Nat} {spare : Nat → Bool} {held : Bool}
theorem open_pi {n : Nat} {c0 c1 : Value} {y : DataW H × List MemPlace} (h : DataW.trod enc Tryd.prog w base spare held n 47 [c0, c1] = some y) :
    ∃ i j : Nat, i < 256 ∧ j < 256 ∧ c0 = .int .u8 (i : Int) ∧ c1 = .int .u8 (j : Int) := by
  have qi : Tryd.prog.cellsOf 45 = 1 := by kernel_rfl
  obtain ⟨n0, y0, h0⟩ := trod_elem Tryd.underlying47 h (i := 0) (by omega)
  obtain ⟨z0, e0, _, w0⟩ := DataW.trod_int Tryd.underlying45 h0
  simp [qi] at e0
  obtain ⟨n1, y1, h1⟩ := trod_elem Tryd.underlying47 h (i := 1) (by omega)
  obtain ⟨z1, e1, _, w1⟩ := DataW.trod_int Tryd.underlying45 h1
  simp [qi] at e1
  obtain ⟨i, rfl, hi⟩ := b8_nat w0
  obtain ⟨j, rfl, hj⟩ := b8_nat w1
  exact ⟨i, j, hi, hj, e0, e1⟩
set_option maxRecDepth 20000 in
theorem open_pis {fuel : Nat} {a : Option Addr} {len cap : Nat} {x : DataW H × List MemPlace} (h : DataW.trod enc Tryd.prog w base spare held fuel 31 (Value.cells (.slice a len cap)).toList = some x) : ∃ l, PiArg w a len cap l := by
  rcases open_slice Tryd.underlying31 h with ⟨hcs, _⟩ | ⟨ad, len', cap', m, n, D, Pl, hcs, _, hl, hm, hmm, _, hel⟩
  · simp [Value.cells] at hcs
    obtain ⟨rfl, rfl, rfl⟩ := hcs
    exact ⟨[], rfl, Nat.le_refl _, by simp [maxLen], fun _ => rfl, fun k h => by simp at h⟩
  · simp [Value.cells] at hcs
    obtain ⟨rfl, rfl, rfl⟩ := hcs
    have hlm : len ≤ m := by rw [hmm]; split <;> omega
    have hC : Tryd.prog.cellsOf 47 = 2 := by kernel_rfl
    have plain : 0 < len → ∃ b o, ad = ⟨b, o, none⟩ := fun h0 => by
      obtain ⟨cs, hcells, _⟩ := hel 0 (by omega)
      rw [hC] at hcells
      obtain ⟨_, hcl, hat⟩ := World.cells?_some hcells
      have h1 := hat 0 (by omega)
      rw [Deep.add_add, List.getElem?_eq_getElem (by omega)] at h1
      exact addr_flat h1
    have one : ∀ i, i < len → ∃ p : Nat × Nat, p.1 < 256 ∧ p.2 < 256 ∧ ∃ b o, some ad = some ⟨b, o, none⟩ ∧ w.cell? ⟨b, o + i * 2, none⟩ = some (.int .u8 (p.1 : Int)) ∧ w.cell? ⟨b, o + i * 2 + 1, none⟩ = some (.int .u8 (p.2 : Int)) := by
      intro i hi
      obtain ⟨cs, hcells, ht⟩ := hel i (by omega)
      rw [hC] at hcells
      obtain ⟨_, hcl, hat⟩ := World.cells?_some hcells
      match cs, hcl with
      | [c0, c1], _ =>
        obtain ⟨p0, p1, h0, h1, rfl, rfl⟩ := open_pi ht
        obtain ⟨b, o, rfl⟩ := plain (by omega)
        refine ⟨(p0, p1), h0, h1, b, o, rfl, ?_, ?_⟩
        · have := hat 0 (by omega)
          rw [Deep.add_add, Go.WideShapes.add_plain, ← Nat.add_assoc, Nat.add_zero] at this
          exact this
        · have := hat 1 (by omega)
          rw [Deep.add_add, Go.WideShapes.add_plain, ← Nat.add_assoc] at this
          exact this
    refine ⟨(List.range len).pmap (fun i hi => Classical.choose (one i hi)) (fun i hi => List.mem_range.1 hi), by simp, hl, hm, (fun e => (by cases e)), fun i hi => ?_⟩
    have hi2 : i < len := by simpa using hi
    have hx : ((List.range len).pmap (fun i hi => Classical.choose (one i hi)) (fun i hi => List.mem_range.1 hi))[i]'hi = Classical.choose (one i hi2) := by simp
    rw [hx]
    exact Classical.choose_spec (one i hi2)
end
theorem b64_nat {n : Int} (h : (Lit.int .u64 n).wf = true) : ∃ k : Nat, n = k ∧ k < 18446744073709551616 := by
  have h2 : (decide (0 ≤ n) && decide (n ≤ 18446744073709551615)) = true := h
  simp only [Bool.and_eq_true, decide_eq_true_eq] at h2
  exact ⟨n.toNat, by omega, by omega⟩
theorem st_pair (p v : Value) : Instr.storeAt 47 p v = stT 47 p v := rfl
end Go.Proofs.YtgmbdadkahcpcaaDoor
