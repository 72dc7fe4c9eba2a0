/- The arguments of layer 4's statements as they come in: numbers within their kind, strings out of bytes, a slice of strings, a struct of two numbers. -/
import Derived.Test.YtgbieihobcindaaDoorFe
import Derived.Test.YtgbieihobcindaaDoorFu
import Derived.Deep.Strs
import Derived.ShutString
import Derived.Lib.SmallJoins
namespace Go.Proofs.YtgbieihobcindaaDoor
open Go.ChangeShapes Go.WideShapes Go.RowKit Go.Deep
set_option linter.unusedVariables false

theorem addr_plain {w : World} {a : Addr} {v : Value} (h : w.cell? (a.add 0) = some v) : ∃ b o, a = ⟨b, o, none⟩ := by
  obtain ⟨b, off, spot⟩ := a
  have hspot : spot = none := by simpa [Addr.add] using World.cell?_spot h
  subst hspot
  exact ⟨b, off, rfl⟩
section
variable {H : Type} {enc : TypeId × Value → H} {w : World} {base : Nat} {spare : Nat → Bool} {held : Bool} {fuel : Nat} {a : Option Addr} {len cap : Nat} {x : DataW H × List MemPlace}
theorem open_texts (h : DataW.trod enc Tryd.prog w base spare held fuel 33 (Value.cells (.slice a len cap)).toList = some x) : ∃ ps, SArg w w.heap.size a len ps := by
  rcases open_strs Tryd.underlying33 Tryd.underlying9 (by kernel_rfl) h with ⟨hcs, _⟩ | ⟨ad, l, c, m, Sx, hcs, _, hl, hm, hz, _, hcell⟩
  · simp [Value.cells] at hcs
    obtain ⟨rfl, rfl, rfl⟩ := hcs
    exact ⟨[], rfl, by simp [maxLen], fun i h => by simp at h⟩
  · simp [Value.cells] at hcs
    obtain ⟨rfl, rfl, rfl⟩ := hcs
    have hlm : len ≤ m := by rw [hz]; split <;> omega
    refine ⟨(List.range len).map (fun i => (Sx i).data.toList), by simp, by omega, fun k hk => ?_⟩
    have hk2 : k < len := by simpa using hk
    obtain ⟨b, o, rfl⟩ := addr_plain (hcell 0 (by omega)).1
    obtain ⟨hc, hs⟩ := hcell k (by omega)
    have e : (⟨b, o, none⟩ : Addr).add k = ⟨b, o + k, none⟩ := by unfold Addr.add; split <;> simp_all
    rw [e] at hc
    refine ⟨b, o, rfl, World.block_lt_of_cell? w _ hc, ?_, ?_⟩
    · rw [List.getElem_map, List.getElem_range]
      simpa using hs
    · rw [hc, List.getElem_map, List.getElem_range, ← str_of]
end
theorem u16_nat {n : Int} (h : (Lit.int .u16 n).wf = true) : ∃ k : Nat, n = k ∧ k < 65536 := by
  have h2 : (decide (0 ≤ n) && decide (n ≤ 65535)) = true := h
  simp only [Bool.and_eq_true, decide_eq_true_eq] at h2
  exact ⟨n.toNat, by omega, by omega⟩
theorem u32_nat {n : Int} (h : (Lit.int .u32 n).wf = true) : ∃ k : Nat, n = k ∧ k < 4294967296 := by
  have h2 : (decide (0 ≤ n) && decide (n ≤ 4294967295)) = true := h
  simp only [Bool.and_eq_true, decide_eq_true_eq] at h2
  exact ⟨n.toNat, by omega, by omega⟩
theorem str_le {s : ByteArray} (h : s.size ≤ maxLen) : s.data.toList.length ≤ maxLen := by simpa using h
theorem law_puts (a0 : ByteArray) (W : World) (w0 : a0.size ≤ maxLen) (ht : Tab W) :
    Calls Tryd.prog 3 #[.string a0] W (Yes W) := by
  have := lawPuts a0.data.toList W (str_le w0) ht
  rwa [← str_of a0] at this
theorem law_reads (a0 : ByteArray) (W : World) (w0 : a0.size ≤ maxLen) (ht : Tab W) :
    Calls Tryd.prog 4 #[.string a0] W (Yes W) := by
  have := lawReads a0.data.toList W (str_le w0) ht
  rwa [← str_of a0] at this
theorem law_long (a0 : Int) (a1 : Bool) (W : World) (w0 : (Lit.int .u16 a0).wf = true) (ht : Tab W) :
    Calls Tryd.prog 5 #[.int .u16 a0, .bool a1] W (Yes W) := by
  obtain ⟨k, rfl, hk⟩ := u16_nat w0
  exact lawLong k a1 W hk ht
theorem law_back (a : Option Addr) (len cap : Nat) (ps : List (List UInt8)) (a1 : Int) (W : World) (h : SArg W W.heap.size a len ps) (w1 : (Lit.int .u16 a1).wf = true) (ht : Tab W) :
    Calls Tryd.prog 6 #[.slice a len cap, .int .u16 a1] W (Yes W) := by
  obtain ⟨k, rfl, hk⟩ := u16_nat w1
  exact lawBack ps k W a len cap h hk ht
theorem law_turned (a0 a2 : ByteArray) (p m : Int) (W : World) (w0 : a0.size ≤ maxLen) (wp : (Lit.int .u16 p).wf = true) (wm : (Lit.int .u32 m).wf = true) (w2 : a2.size ≤ maxLen) (ht : Tab W) :
    Calls Tryd.prog 7 #[.string a0, .agg #[.int .u16 p, .int .u32 m], .string a2] W (Yes W) := by
  obtain ⟨k, rfl, hk⟩ := u16_nat wp
  obtain ⟨j, rfl, hj⟩ := u32_nat wm
  have := lawTurned a0.data.toList a2.data.toList k j W (str_le w0) (str_le w2) hk hj ht
  rwa [← str_of a0, ← str_of a2] at this
end Go.Proofs.YtgbieihobcindaaDoor
