/- The arguments of layer 12's statements as they come in: acts with their lists of numbers, two such lists; the rows' walks. -/
import Derived.Test.YtecchaogpcpooaaDx
import Derived.Deep.Slices
import Derived.Deep.Strs
import Derived.Lib.SmallJoins
import Derived.OpenShut
import Derived.ShutString
namespace Go.Proofs.Ytecchaogpcpooaa
open Go.ChangeShapes Go.WideShapes Go.RowKit Go.Deep
set_option linter.unusedVariables false
set_option linter.unusedSimpArgs false
set_option maxRecDepth 20000
theorem i64_of {n : Int} (h : (Lit.int .i64 n).wf = true) : -9223372036854775808 ≤ n ∧ n ≤ 9223372036854775807 := by
  have h2 : (decide (-9223372036854775808 ≤ n) && decide (n ≤ 9223372036854775807)) = true := h
  simp only [Bool.and_eq_true, decide_eq_true_eq] at h2
  exact h2
theorem b8_nat {n : Int} (h : (Lit.int .u8 n).wf = true) : ∃ k : Nat, n = k ∧ k < 256 := by
  have h2 : (decide (0 ≤ n) && decide (n ≤ 255)) = true := h
  simp only [Bool.and_eq_true, decide_eq_true_eq] at h2
  exact ⟨n.toNat, by omega, by omega⟩
theorem addr_flat {w : World} {a : Addr} {v : Value} (h : w.cell? (a.add 0) = some v) : ∃ b o, a = ⟨b, o, none⟩ := by
  obtain ⟨b, off, spot⟩ := a
  have hspot : spot = none := by simpa [Addr.add] using World.cell?_spot h
  subst hspot
  exact ⟨b, off, rfl⟩
section
variable {H : Type} {enc : TypeId × Value → H} {P : Program} {w : World} {base : Nat} {spare : Nat → Bool} {held : Bool}
theorem trod_field {t : TypeId} {fs : Array Field} {fuel : Nat} {cs : List Value} {x : DataW H × List MemPlace} (ht : P.underlying t = some (.struct fs)) (h : DataW.trod enc P w base spare held fuel t cs = some x) {i : Nat} {f : Field} (hi : fs[i]? = some f) :
    ∃ n y, DataW.trod enc P w base spare held n f.type ((cs.drop f.offset).take (P.cellsOf f.type)) = some y := by
  obtain ⟨xs, n, _, _, _, hlen, hf⟩ := DataW.trod_struct ht h
  obtain ⟨hlt, _⟩ := Array.getElem?_eq_some_iff.1 hi
  have := hf i f hi
  rw [List.getElem?_eq_getElem (by omega)] at this
  exact ⟨n, _, this⟩
end
theorem Ints.lt {w : World} {ao : Option Addr} {ks : List Int} (h : Ints w ao ks) : ∀ x, ao = some x → ks ≠ [] → x.block < w.heap.size := fun x hx hn => by
  obtain ⟨b, o, e, hc, _⟩ := h 0 (List.length_pos_iff.2 hn)
  rw [hx] at e
  cases e
  exact World.block_lt_of_cell? w _ hc
section
variable {H : Type} {enc : TypeId × Value → H} {w : World} {base : Nat} {spare : Nat → Bool} {held : Bool} {fuel : Nat}
/-- A list of numbers as it comes in. -/
theorem open_il {c : Value} {x : DataW H × List MemPlace} (h : DataW.trod enc Try.prog w base spare held fuel 31 [c] = some x) : ∃ (ao : Option Addr) (ks : List Int) (cap : Nat), c = .slice ao ks.length cap ∧ ks.length ≤ maxLen ∧ Ints w ao ks := by
  rcases open_ints Try.underlying31 Try.underlying3 (by kernel_rfl) h with ⟨hcs, _⟩ | ⟨ad, l, cp, zs, hcs, _, hl, hm, hz, _, hcell, hwz⟩
  · simp at hcs
    subst hcs
    exact ⟨none, [], 0, rfl, by simp [maxLen], fun j h => by cases h⟩
  · simp at hcs
    subst hcs
    have hzl : l ≤ zs.length := by rw [hz]; split <;> omega
    have htl : (zs.take l).length = l := by rw [List.length_take]; omega
    refine ⟨some ad, zs.take l, cp, by rw [htl], by rw [htl]; omega, fun j hj => ?_⟩
    rw [htl] at hj
    obtain ⟨b, o, rfl, hc⟩ := ints_at hcell (by omega)
    have hci := hc j (by omega)
    have hg : zs.getD j 0 = zs[j]'(by omega) := by simp [List.getD, List.getElem?_eq_getElem (show j < zs.length from by omega)]
    rw [hg] at hci
    have hr := i64_of (hwz (zs[j]'(by omega)) (List.getElem_mem _))
    refine ⟨b, o, rfl, ?_, ?_, ?_⟩
    · rw [hci, List.getElem_take]
    · rw [List.getElem_take]; exact hr.1
    · rw [List.getElem_take]; exact hr.2
theorem open_act {n : Nat} {c0 c1 c2 c3 c4 : Value} {y : DataW H × List MemPlace} (h : DataW.trod enc Try.prog w base spare held n 33 [c0, c1, c2, c3, c4] = some y) :
    ∃ a : Act2, a.ok w ∧ #[c0, c1, c2, c3, c4] = a.cs := by
  have q8 : Try.prog.cellsOf 5 = 1 := by kernel_rfl
  have qs : Try.prog.cellsOf 9 = 1 := by kernel_rfl
  have ql : Try.prog.cellsOf 31 = 1 := by kernel_rfl
  obtain ⟨n0, y0, h0⟩ := trod_field Try.underlying33 h (i := 0) rfl
  obtain ⟨n1, y1, h1⟩ := trod_field Try.underlying33 h (i := 1) rfl
  obtain ⟨n2, y2, h2⟩ := trod_field Try.underlying33 h (i := 2) rfl
  obtain ⟨n3, y3, h3⟩ := trod_field Try.underlying33 h (i := 3) rfl
  obtain ⟨n4, y4, h4⟩ := trod_field Try.underlying33 h (i := 4) rfl
  obtain ⟨z0, e0, _, w0⟩ := DataW.trod_int Try.underlying5 h0
  obtain ⟨s1, e1, _, w1⟩ := DataW.trod_string Try.underlying9 h1
  obtain ⟨s2, e2, _, w2⟩ := DataW.trod_string Try.underlying9 h2
  obtain ⟨s3, e3, _, w3⟩ := DataW.trod_string Try.underlying9 h3
  simp [Value.cells, ql] at h4
  obtain ⟨ko, ks, kc, rfl, hkl, hki⟩ := open_il h4
  simp [Value.cells, q8] at e0
  simp [Value.cells, qs] at e1 e2 e3
  subst e0 e1 e2 e3
  obtain ⟨c, rfl, hc⟩ := b8_nat w0
  refine ⟨⟨c, s1.data.toList, s2.data.toList, s3.data.toList, ko, ks, kc⟩, ⟨hc, by simpa using w1, by simpa using w2, by simpa using w3, hkl, hki, hki.lt⟩, ?_⟩
  simp only [Act2.cs]
  rw [← str_of, ← str_of, ← str_of]
/-- A slice of acts as it comes in. -/
def ActArg (w : World) (a : Option Addr) (len : Nat) (l : List Act2) : Prop := l.length = len ∧ len ≤ maxLen ∧ Acs w a l
theorem open_acts {a : Option Addr} {len cap : Nat} {x : DataW H × List MemPlace} (h : DataW.trod enc Try.prog w base spare held fuel 22 (Value.cells (.slice a len cap)).toList = some x) : ∃ l, ActArg w a len l := by
  rcases open_slice Try.underlying22 h with ⟨hcs, _⟩ | ⟨ad, len', cap', m, n, D, Pl, hcs, _, hl, hm, hmm, _, hel⟩
  · simp [Value.cells] at hcs
    obtain ⟨rfl, rfl, rfl⟩ := hcs
    exact ⟨[], rfl, by simp [maxLen], fun k h => by simp at h⟩
  · simp [Value.cells] at hcs
    obtain ⟨rfl, rfl, rfl⟩ := hcs
    have hlm : len ≤ m := by rw [hmm]; split <;> omega
    have hC : Try.prog.cellsOf 33 = 5 := by kernel_rfl
    have plain : 0 < len → ∃ b o, ad = ⟨b, o, none⟩ := fun h0 => by
      obtain ⟨cs, hcells, _⟩ := hel 0 (by omega)
      rw [hC] at hcells
      obtain ⟨_, hcl, hat⟩ := World.cells?_some hcells
      have h1 := hat 0 (by omega)
      rw [Deep.add_add, List.getElem?_eq_getElem (by omega)] at h1
      exact addr_flat h1
    have one : ∀ i, i < len → ∃ p : Act2, ∃ b o, some ad = some ⟨b, o, none⟩ ∧ (∀ j v, p.cs[j]? = some v → w.cell? ⟨b, o + i * 5 + j, none⟩ = some v) ∧ p.ok w := by
      intro i hi
      obtain ⟨cs, hcells, ht⟩ := hel i (by omega)
      rw [hC] at hcells
      obtain ⟨_, hcl, hat⟩ := World.cells?_some hcells
      match cs, hcl with
      | [c0, c1, c2, c3, c4], _ =>
        obtain ⟨p, hp, he⟩ := open_act ht
        obtain ⟨b, o, rfl⟩ := plain (by omega)
        refine ⟨p, b, o, rfl, fun j v hv => ?_, hp⟩
        rw [← he] at hv
        have hj : j < 5 := by
          obtain ⟨hj, _⟩ := Array.getElem?_eq_some_iff.1 hv
          simpa using hj
        have := hat j (by omega)
        rw [Deep.add_add, Go.WideShapes.add_plain, ← Nat.add_assoc] at this
        rw [this]
        simpa using hv
    refine ⟨(List.range len).pmap (fun i hi => Classical.choose (one i hi)) (fun i hi => List.mem_range.1 hi), by simp, Nat.le_trans hl hm, fun i hi => ?_⟩
    have hi2 : i < len := by simpa using hi
    have hx : ((List.range len).pmap (fun i hi => Classical.choose (one i hi)) (fun i hi => List.mem_range.1 hi))[i]'hi = Classical.choose (one i hi2) := by simp
    rw [hx]
    exact Classical.choose_spec (one i hi2)
/-- Two lists of numbers, by value. -/
theorem open_keep {r : Reach} {b0 : Nat} {v : Value} {d : DataW H} {p : List MemPlace} (hv : Value.okWide Try.prog w r b0 38 v) (h : DataW.Trod enc Try.prog w base spare held 38 v d p) :
    ∃ (k0 : Option Addr) (s0 : List Int) (c0 : Nat) (k1 : Option Addr) (s1 : List Int) (c1 : Nat), v = .agg #[.slice k0 s0.length c0, .slice k1 s1.length c1] ∧ s0.length ≤ maxLen ∧ s1.length ≤ maxLen ∧ Ints w k0 s0 ∧ Ints w k1 s1 := by
  have hC : Try.prog.cellsOf 38 = 2 := by kernel_rfl
  have hce : Try.prog.cellsOf 31 = 1 := by kernel_rfl
  simp only [Value.okWide, Try.underlying38] at hv
  obtain ⟨cs, rfl, hsz, _⟩ := hv
  obtain ⟨c0, c1, rfl⟩ := Joins.array2 (hsz.trans hC)
  obtain ⟨fuel, hf⟩ := h
  obtain ⟨xs, m, _, hx, _, hlen, hi⟩ := DataW.trod_array Try.underlying38 hf
  match xs, hlen with
  | [y0, y1], _ =>
    have h0 := hi 0 (by omega)
    have h1 := hi 1 (by omega)
    simp [hce, Value.cells] at h0 h1
    obtain ⟨k0, s0, d0, rfl, l0, i0⟩ := open_il h0
    obtain ⟨k1, s1, d1, rfl, l1, i1⟩ := open_il h1
    exact ⟨k0, s0, d0, k1, s1, d1, rfl, l0, l1, i0, i1⟩
end
end Go.Proofs.Ytecchaogpcpooaa
