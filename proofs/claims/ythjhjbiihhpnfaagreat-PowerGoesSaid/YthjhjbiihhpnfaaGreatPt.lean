/- The arguments of layer 13's statements as they come in: numbers to keep, acts; the rows' walks. -/
import Derived.Test.YthjhjbiihhpnfaaGreatDs
import Derived.Test.YthjhjbiihhpnfaaGreatPr
namespace Go.Proofs.YthjhjbiihhpnfaaGreat
open Go.ChangeShapes Go.WideShapes Go.RowKit Go.Deep
set_option linter.unusedVariables false
set_option linter.unusedSimpArgs false
set_option maxRecDepth 20000
section
variable {H : Type} {enc : TypeId × Value → H} {w : World} {base : Nat} {spare : Nat → Bool} {held : Bool} {fuel : Nat}
/-- Numbers to keep as they come in. -/
def KArg (w : World) (a : Option Addr) (len : Nat) (ks : List Int) : Prop := ks.length = len ∧ ks.length ≤ maxLen ∧ Ints w a ks ∧ (∀ x, a = some x → ks ≠ [] → x.block < w.heap.size)
theorem open_keeps {a : Option Addr} {len cap : Nat} {x : DataW H × List MemPlace} (h : DataW.trod enc Tryz.prog w base spare held fuel 22 (Value.cells (.slice a len cap)).toList = some x) : ∃ ks, KArg w a len ks := by
  have h' : DataW.trod enc Tryz.prog w base spare held fuel 22 [.slice a len cap] = some x := by simpa [Value.cells] using h
  obtain ⟨ao, ks, c, he, hl, hi⟩ := open_il h'
  injection he with e1 e2 e3
  subst e1
  exact ⟨ks, e2.symm, hl, hi, hi.lt⟩
theorem open_act3 {n : Nat} {c0 c1 c2 : Value} {y : DataW H × List MemPlace} (h : DataW.trod enc Tryz.prog w base spare held n 37 [c0, c1, c2] = some y) :
    ∃ a : Act3, a.ok ∧ #[c0, c1, c2] = a.cs := by
  have q8 : Tryz.prog.cellsOf 5 = 1 := by kernel_rfl
  have qs : Tryz.prog.cellsOf 9 = 1 := by kernel_rfl
  obtain ⟨n0, y0, h0⟩ := trod_field Tryz.underlying37 h (i := 0) rfl
  obtain ⟨n1, y1, h1⟩ := trod_field Tryz.underlying37 h (i := 1) rfl
  obtain ⟨n2, y2, h2⟩ := trod_field Tryz.underlying37 h (i := 2) rfl
  obtain ⟨z0, e0, _, w0⟩ := DataW.trod_int Tryz.underlying5 h0
  obtain ⟨s1, e1, _, w1⟩ := DataW.trod_string Tryz.underlying9 h1
  obtain ⟨s2, e2, _, w2⟩ := DataW.trod_string Tryz.underlying9 h2
  simp [Value.cells, q8] at e0
  simp [Value.cells, qs] at e1 e2
  subst e0 e1 e2
  obtain ⟨c, rfl, hc⟩ := b8_nat w0
  refine ⟨⟨c, s1.data.toList, s2.data.toList⟩, ⟨hc, by simpa using w1, by simpa using w2⟩, ?_⟩
  simp only [Act3.cs]
  rw [← str_of, ← str_of]
/-- A slice of acts as it comes in. -/
def ActArg3 (w : World) (a : Option Addr) (len : Nat) (l : List Act3) : Prop := l.length = len ∧ len ≤ maxLen ∧ Acs3 w a l
theorem open_acts3 {a : Option Addr} {len cap : Nat} {x : DataW H × List MemPlace} (h : DataW.trod enc Tryz.prog w base spare held fuel 23 (Value.cells (.slice a len cap)).toList = some x) : ∃ l, ActArg3 w a len l := by
  rcases open_slice Tryz.underlying23 h with ⟨hcs, _⟩ | ⟨ad, len', cap', m, n, D, Pl, hcs, _, hl, hm, hmm, _, hel⟩
  · simp [Value.cells] at hcs
    obtain ⟨rfl, rfl, rfl⟩ := hcs
    exact ⟨[], rfl, by simp [maxLen], fun k h => by simp at h⟩
  · simp [Value.cells] at hcs
    obtain ⟨rfl, rfl, rfl⟩ := hcs
    have hlm : len ≤ m := by rw [hmm]; split <;> omega
    have hC : Tryz.prog.cellsOf 37 = 3 := by kernel_rfl
    have plain : 0 < len → ∃ b o, ad = ⟨b, o, none⟩ := fun h0 => by
      obtain ⟨cs, hcells, _⟩ := hel 0 (by omega)
      rw [hC] at hcells
      obtain ⟨_, hcl, hat⟩ := World.cells?_some hcells
      have h1 := hat 0 (by omega)
      rw [Deep.add_add, List.getElem?_eq_getElem (by omega)] at h1
      exact addr_flat h1
    have one : ∀ i, i < len → ∃ p : Act3, ∃ b o, some ad = some ⟨b, o, none⟩ ∧ (∀ j v, p.cs[j]? = some v → w.cell? ⟨b, o + i * 3 + j, none⟩ = some v) ∧ p.ok := by
      intro i hi
      obtain ⟨cs, hcells, ht⟩ := hel i (by omega)
      rw [hC] at hcells
      obtain ⟨_, hcl, hat⟩ := World.cells?_some hcells
      match cs, hcl with
      | [c0, c1, c2], _ =>
        obtain ⟨p, hp, he⟩ := open_act3 ht
        obtain ⟨b, o, rfl⟩ := plain (by omega)
        refine ⟨p, b, o, rfl, fun j v hv => ?_, hp⟩
        rw [← he] at hv
        have hj : j < 3 := by
          obtain ⟨hj, _⟩ := Array.getElem?_eq_some_iff.1 hv
          simpa using hj
        have := hat j (by omega)
        rw [Deep.add_add, Go.WideShapes.add_plain, ← Nat.add_assoc] at this
        rw [this]
        simpa using hv
    refine ⟨(List.range len).pmap (fun i hi => Classical.choose (one i hi)) (fun i hi => List.mem_range.1 hi), by simp, Nat.le_trans hl hm, fun i hi => ?_⟩
    have hi2 : i < len := by simpa using hi
    have hx : ((List.range len).pmap (fun i hi => Classical.choose (one i hi)) (fun i hi => List.mem_range.1 hi))[i]'hi = Classical.choose (one i hi2) := by simp
    rw [hx]
    exact Classical.choose_spec (one i hi2)
end
theorem rowGoes (fu : Int) (ko lo : Option Addr) (klen kcap len cap : Nat) (ks : List Int) (l : List Act3) (W : World) (hk : KArg W ko klen ks) (h : ActArg3 W lo len l) :
    Calls Tryz.prog 3 #[.int .i64 fu, .slice ko klen kcap, .slice lo len cap] W fun E w' => E = .returned (.bool true) ∧ Below W.heap.size W w' := by
  obtain ⟨rfl, h1, h2, h3⟩ := hk
  obtain ⟨rfl, h4, h5⟩ := h
  exact law_goes fu ko ks kcap l lo cap W h2 h1 h3 h5 h4
theorem rowCuts (fi : Int) (ko lo : Option Addr) (klen kcap len cap : Nat) (ks : List Int) (l : List Act3) (W : World) (hf : (Lit.int .u8 fi).wf = true) (hk : KArg W ko klen ks) (h : ActArg3 W lo len l) :
    Calls Tryz.prog 4 #[.int .u8 fi, .slice ko klen kcap, .slice lo len cap] W fun E w' => E = .returned (.bool true) ∧ Below W.heap.size W w' := by
  obtain ⟨f, rfl, hf2⟩ := b8_nat hf
  obtain ⟨rfl, h1, h2, h3⟩ := hk
  obtain ⟨rfl, h4, h5⟩ := h
  exact law_cuts f ko ks kcap l lo cap W hf2 h2 h1 h3 h5 h4
end Go.Proofs.YthjhjbiihhpnfaaGreat
