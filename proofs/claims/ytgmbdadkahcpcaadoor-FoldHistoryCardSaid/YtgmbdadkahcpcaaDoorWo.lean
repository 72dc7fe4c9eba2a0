/- The arguments of layer 11's statements as they come in: acts taken apart; the rows' walks. -/
import Derived.Test.YtgmbdadkahcpcaaDoorWp
import Derived.Test.YtgmbdadkahcpcaaDoorWq
import Derived.Test.YtgmbdadkahcpcaaDoorWr
import Derived.Test.YtgmbdadkahcpcaaDoorWs
import Derived.Test.YtgmbdadkahcpcaaDoorWt
namespace Go.Proofs.YtgmbdadkahcpcaaDoor
open Go.ChangeShapes Go.WideShapes Go.RowKit Go.Deep
set_option linter.unusedVariables false
set_option linter.unusedSimpArgs false
set_option maxRecDepth 20000
theorem i64_of {n : Int} (h : (Lit.int .i64 n).wf = true) : -9223372036854775808 ≤ n ∧ n < 9223372036854775808 := by
  have h2 : (decide (-9223372036854775808 ≤ n) && decide (n ≤ 9223372036854775807)) = true := h
  simp only [Bool.and_eq_true, decide_eq_true_eq] at h2
  omega
section
variable {H : Type} {enc : TypeId × Value → H} {w : World} {base : Nat} {spare : Nat → Bool} {held : Bool}
theorem open_act {n : Nat} {c0 c1 c2 c3 c4 : Value} {y : DataW H × List MemPlace} (h : DataW.trod enc Tryd.prog w base spare held n 49 [c0, c1, c2, c3, c4] = some y) :
    ∃ a : Ac, a.ok ∧ [c0, c1, c2, c3, c4] = a.cs := by
  have q8 : Tryd.prog.cellsOf 5 = 1 := by kernel_rfl
  have qp : Tryd.prog.cellsOf 47 = 2 := by kernel_rfl
  have q64 : Tryd.prog.cellsOf 22 = 1 := by kernel_rfl
  have qi : Tryd.prog.cellsOf 3 = 1 := by kernel_rfl
  obtain ⟨n0, y0, h0⟩ := trod_field Tryd.underlying49 h (i := 0) rfl
  obtain ⟨n1, y1, h1⟩ := trod_field Tryd.underlying49 h (i := 1) rfl
  obtain ⟨n2, y2, h2⟩ := trod_field Tryd.underlying49 h (i := 2) rfl
  obtain ⟨n3, y3, h3⟩ := trod_field Tryd.underlying49 h (i := 3) rfl
  obtain ⟨z0, e0, _, w0⟩ := DataW.trod_int Tryd.underlying5 h0
  obtain ⟨z2, e2, _, w2⟩ := DataW.trod_int Tryd.underlying22 h2
  obtain ⟨z3, e3, _, w3⟩ := DataW.trod_int Tryd.underlying3 h3
  simp [Value.cells, qp] at h1
  obtain ⟨i, j, hi, hj, rfl, rfl⟩ := open_pi h1
  simp [Value.cells, q8] at e0
  simp [Value.cells, q64] at e2
  simp [Value.cells, qi] at e3
  subst e0 e2 e3
  obtain ⟨c, rfl, hc⟩ := b8_nat w0
  obtain ⟨f, rfl, hf⟩ := b64_nat w2
  exact ⟨⟨c, i, j, f, z3⟩, ⟨hc, hi, hj, hf, (i64_of w3).1, (i64_of w3).2⟩, rfl⟩
/-- A slice of acts as it comes in. -/
def AcArg (w : World) (a : Option Addr) (len : Nat) (l : List Ac) : Prop := l.length = len ∧ len ≤ maxLen ∧ Acs w a l
theorem open_acts {fuel : Nat} {a : Option Addr} {len cap : Nat} {x : DataW H × List MemPlace} (h : DataW.trod enc Tryd.prog w base spare held fuel 37 (Value.cells (.slice a len cap)).toList = some x) : ∃ l, AcArg w a len l := by
  rcases open_slice Tryd.underlying37 h with ⟨hcs, _⟩ | ⟨ad, len', cap', m, n, D, Pl, hcs, _, hl, hm, hmm, _, hel⟩
  · simp [Value.cells] at hcs
    obtain ⟨rfl, rfl, rfl⟩ := hcs
    exact ⟨[], rfl, by simp [maxLen], fun k h => by simp at h⟩
  · simp [Value.cells] at hcs
    obtain ⟨rfl, rfl, rfl⟩ := hcs
    have hlm : len ≤ m := by rw [hmm]; split <;> omega
    have hC : Tryd.prog.cellsOf 49 = 5 := by kernel_rfl
    have plain : 0 < len → ∃ b o, ad = ⟨b, o, none⟩ := fun h0 => by
      obtain ⟨cs, hcells, _⟩ := hel 0 (by omega)
      rw [hC] at hcells
      obtain ⟨_, hcl, hat⟩ := World.cells?_some hcells
      have h1 := hat 0 (by omega)
      rw [Deep.add_add, List.getElem?_eq_getElem (by omega)] at h1
      exact addr_flat h1
    have one : ∀ i, i < len → ∃ p : Ac, p.ok ∧ ∃ b o, some ad = some ⟨b, o, none⟩ ∧ ∀ j v, p.cs[j]? = some v → w.cell? ⟨b, o + i * 5 + j, none⟩ = some v := by
      intro i hi
      obtain ⟨cs, hcells, ht⟩ := hel i (by omega)
      rw [hC] at hcells
      obtain ⟨_, hcl, hat⟩ := World.cells?_some hcells
      match cs, hcl with
      | [c0, c1, c2, c3, c4], _ =>
        obtain ⟨p, hp, he⟩ := open_act ht
        obtain ⟨b, o, rfl⟩ := plain (by omega)
        refine ⟨p, hp, b, o, rfl, fun j v hv => ?_⟩
        have hj : j < 5 := by
          obtain ⟨hj, _⟩ := List.getElem?_eq_some_iff.1 hv
          simpa using hj
        have := hat j (by omega)
        rw [Deep.add_add, Go.WideShapes.add_plain, ← Nat.add_assoc, he, hv] at this
        exact this
    refine ⟨(List.range len).pmap (fun i hi => Classical.choose (one i hi)) (fun i hi => List.mem_range.1 hi), by simp, Nat.le_trans hl hm, fun i hi => ?_⟩
    have hi2 : i < len := by simpa using hi
    have hx : ((List.range len).pmap (fun i hi => Classical.choose (one i hi)) (fun i hi => List.mem_range.1 hi))[i]'hi = Classical.choose (one i hi2) := by simp
    rw [hx]
    exact Classical.choose_spec (one i hi2)
end
theorem rowMakes (s : St) (ao : Option Addr) (cap : Nat) (lo : Option Addr) (len cap1 : Nat) (l : List (Nat × Nat)) (W : World) (hS : Shs W ao s.ss) (hn : ao = none → cap = 0) (hl : s.ss.length ≤ maxLen) (hf : s.fit) (h : PiArg W lo len cap1 l) (hL : Laid W) :
    Calls Tryd.prog 3 #[sv s ao cap, .slice lo len cap1] W fun E w' => E = .returned (.bool true) ∧ Below W.heap.size W w' := by
  obtain ⟨rfl, h1, h2, h3, hP⟩ := h
  exact law_makes s ao cap l lo cap1 W hS hn hl hf hP (Nat.le_trans h1 h2) hL
theorem rowHistory (d m : Int) (lo : Option Addr) (len cap : Nat) (l : List Ac) (W : World) (wd : (Lit.int .u64 d).wf = true) (h : AcArg W lo len l) (hL : Laid W) :
    Calls Tryd.prog 4 #[.int .u64 d, .int .i64 m, .slice lo len cap] W fun E w' => E = .returned (.bool true) ∧ Below W.heap.size W w' := by
  obtain ⟨k, rfl, hk⟩ := b64_nat wd
  obtain ⟨rfl, h1, h2⟩ := h
  exact law_history k m l lo cap W hk h2 h1 hL
theorem rowParts (s : St) (ao : Option Addr) (cap : Nat) (lo : Option Addr) (len cap1 : Nat) (l : List (Nat × Nat)) (mo : Option Addr) (len2 cap2 : Nat) (m : List (Nat × Nat)) (W : World) (hS : Shs W ao s.ss) (hn : ao = none → cap = 0) (hl : s.ss.length ≤ maxLen) (hf : s.fit) (h : PiArg W lo len cap1 l) (k : PiArg W mo len2 cap2 m) (hL : Laid W) :
    Calls Tryd.prog 6 #[sv s ao cap, .slice lo len cap1, .slice mo len2 cap2] W fun E w' => E = .returned (.bool true) ∧ Below W.heap.size W w' := by
  obtain ⟨rfl, h1, h2, h3, hP⟩ := h
  obtain ⟨rfl, k1, k2, k3, kP⟩ := k
  exact law_parts s ao cap l m lo mo cap1 cap2 W hS hn hl hf hP kP h1 h2 (Nat.le_trans k1 k2) hL
theorem rowHolds (d n : Int) (lo : Option Addr) (len cap : Nat) (l : List (Nat × Nat)) (W : World) (wd : (Lit.int .u64 d).wf = true) (wn : (Lit.int .u8 n).wf = true) (h : PiArg W lo len cap l) (hL : Laid W) :
    Calls Tryd.prog 7 #[.int .u64 d, .slice lo len cap, .int .u8 n] W fun E w' => E = .returned (.bool true) ∧ Below W.heap.size W w' := by
  obtain ⟨k, rfl, hk⟩ := b64_nat wd
  obtain ⟨j, rfl, hj⟩ := b8_nat wn
  obtain ⟨rfl, h1, h2, h3, hP⟩ := h
  exact law_holds k l lo cap j W hk hP (Nat.le_trans h1 h2) hj hL
end Go.Proofs.YtgmbdadkahcpcaaDoor
