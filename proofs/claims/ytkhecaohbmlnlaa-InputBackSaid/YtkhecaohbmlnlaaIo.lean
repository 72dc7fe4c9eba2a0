/- The arguments of layer 6's statements as they come in: an input, a list of inputs, strings out of bytes, numbers within their kind. -/
import Derived.Test.YtkhecaohbmlnlaaIl
import Derived.Test.YtkhecaohbmlnlaaIm
import Derived.Deep.Strs
import Derived.ShutString
namespace Go.Proofs.Ytkhecaohbmlnlaa
open Go.ChangeShapes Go.WideShapes Go.RowKit Go.Deep
set_option linter.unusedVariables false

section
variable {H : Type} {enc : TypeId × Value → H} {w : World} {base : Nat} {spare : Nat → Bool} {held : Bool} {fuel : Nat} {a : Option Addr} {len cap : Nat} {x : DataW H × List MemPlace}
theorem open_inputs (h : DataW.trod enc Try.prog w base spare held fuel 27 (Value.cells (.slice a len cap)).toList = some x) : ∃ l, IArg w a len cap l := by
  rcases open_ints Try.underlying27 Try.underlying22 (by kernel_rfl) h with ⟨hcs, _⟩ | ⟨ad, l, c, zs, hcs, _, hl, hm, hz, _, hcell, hwz⟩
  · simp [Value.cells] at hcs
    obtain ⟨rfl, rfl, rfl⟩ := hcs
    exact ⟨[], rfl, Nat.le_refl _, by simp [maxLen], fun _ => ⟨rfl, rfl⟩, ins_nil _ _⟩
  · simp [Value.cells] at hcs
    obtain ⟨rfl, rfl, rfl⟩ := hcs
    have hzl : len ≤ zs.length := by rw [hz]; split <;> omega
    refine ⟨(zs.take len).map (fun z => UInt8.ofNat z.toNat), by simp; omega, hl, hm, fun h => by simp at h, fun i hi => ?_⟩
    have hi2 : i < len := by simp at hi; omega
    obtain ⟨b, o, rfl, hc⟩ := ints_at hcell (by omega)
    have hci := hc i (by omega)
    have hw := hwz (zs[i]'(by omega)) (List.getElem_mem _)
    have hb := bounds_u8 hw
    have hg : zs.getD i 0 = zs[i]'(by omega) := by simp [List.getD, List.getElem?_eq_getElem (show i < zs.length from by omega)]
    rw [hg] at hci
    refine ⟨b, o, rfl, ?_⟩
    rw [hci]
    simp only [List.getElem_map, List.getElem_take]
    have e : ((UInt8.ofNat (zs[i]'(by omega)).toNat).toNat : Int) = zs[i]'(by omega) := by rw [UInt8.toNat_ofNat']; omega
    rw [e]
end
theorem u8_nat {n : Int} (h : (Lit.int .u8 n).wf = true) : ∃ k : Nat, n = k ∧ k < 256 := by
  have h2 : (decide (0 ≤ n) && decide (n ≤ 255)) = true := h
  simp only [Bool.and_eq_true, decide_eq_true_eq] at h2
  exact ⟨n.toNat, by omega, by omega⟩
theorem u16_nat {n : Int} (h : (Lit.int .u16 n).wf = true) : ∃ k : Nat, n = k ∧ k < 65536 := by
  have h2 : (decide (0 ≤ n) && decide (n ≤ 65535)) = true := h
  simp only [Bool.and_eq_true, decide_eq_true_eq] at h2
  exact ⟨n.toNat, by omega, by omega⟩
theorem i64_in {n : Int} (h : (Lit.int .i64 n).wf = true) : -9223372036854775808 ≤ n ∧ n < 9223372036854775808 := by
  have h2 : (decide (-9223372036854775808 ≤ n) && decide (n ≤ 9223372036854775807)) = true := h
  simp only [Bool.and_eq_true, decide_eq_true_eq] at h2
  omega
theorem str_le {s : ByteArray} (h : s.size ≤ maxLen) : s.data.toList.length ≤ maxLen := by simpa using h
theorem rowBits (a0 : Int) (W : World) (w0 : (Lit.int .u8 a0).wf = true) : Calls Try.prog 3 #[.int .u8 a0] W (Yes W) := by
  obtain ⟨k, rfl, hk⟩ := u8_nat w0
  exact lawBits k W hk
theorem rowTurned (a0 : Int) (W : World) (w0 : (Lit.int .u8 a0).wf = true) : Calls Try.prog 8 #[.int .u8 a0] W (Yes W) := by
  obtain ⟨k, rfl, hk⟩ := u8_nat w0
  exact lawTurned k W hk
theorem rowUnpacks (a0 : ByteArray) (a1 : Int) (W : World) (w0 : a0.size ≤ maxLen) (w1 : (Lit.int .i64 a1).wf = true) :
    Calls Try.prog 5 #[.string a0, .int .i64 a1] W (Yes W) := by
  have := lawUnpacks a0.data.toList a1 W (str_le w0) (i64_in w1).1 (i64_in w1).2
  rwa [← str_of a0] at this
theorem rowOne (a0 : ByteArray) (a1 : Int) (W : World) (w0 : a0.size ≤ maxLen) (w1 : (Lit.int .i64 a1).wf = true) :
    Calls Try.prog 7 #[.string a0, .int .i64 a1] W (Yes W) := by
  have := lawOne a0.data.toList a1 W (str_le w0) (i64_in w1).1 (i64_in w1).2
  rwa [← str_of a0] at this
theorem rowPacks (a : Option Addr) (len cap : Nat) (l : List UInt8) (W : World) (h : IArg W a len cap l) : Calls Try.prog 4 #[.slice a len cap] W (Yes W) := by
  obtain rfl := h.1
  exact lawPacks a cap l W h
theorem rowBack (a : Option Addr) (len cap : Nat) (l : List UInt8) (a1 a2 : Int) (W : World) (h : IArg W a len cap l) (w1 : (Lit.int .u16 a1).wf = true) (w2 : (Lit.int .u16 a2).wf = true) :
    Calls Try.prog 6 #[.slice a len cap, .int .u16 a1, .int .u16 a2] W (Yes W) := by
  obtain rfl := h.1
  obtain ⟨k, rfl, hk⟩ := u16_nat w1
  obtain ⟨j, rfl, hj⟩ := u16_nat w2
  exact lawBack a cap l k j W h hk hj
end Go.Proofs.Ytkhecaohbmlnlaa
