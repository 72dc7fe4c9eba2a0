/- The arguments of layer 2's statements, read: a slice of bytes, a slice of items. -/
import Derived.Test.YtdjiklokmiaieaaLb
import Derived.Deep.Strs
import Derived.ShutString
namespace Go.Proofs.Ytdjiklokmiaieaa
open Go.ChangeShapes Go.WideShapes Go.RowKit Go.Deep
set_option linter.unusedVariables false

theorem addr_plain {w : World} {a : Addr} {v : Value} (h : w.cell? (a.add 0) = some v) : ∃ b o, a = ⟨b, o, none⟩ := by
  obtain ⟨b, off, spot⟩ := a
  have hspot : spot = none := by simpa [Addr.add] using World.cell?_spot h
  subst hspot
  exact ⟨b, off, rfl⟩
section
variable {H : Type} {enc : TypeId × Value → H} {w : World} {base : Nat} {spare : Nat → Bool} {held : Bool} {fuel : Nat} {a : Option Addr} {len cap : Nat} {x : DataW H × List MemPlace}
theorem open_kinds (h : DataW.trod enc Try.prog w base spare held fuel 26 (Value.cells (.slice a len cap)).toList = some x) : ∃ ks, Kinds w w.heap.size a len ks := by
  rcases open_ints Try.underlying26 Try.underlying5 (by kernel_rfl) h with ⟨hcs, _⟩ | ⟨ad, l, c, zs, hcs, _, hl, hm, hz, _, hcell, hwz⟩
  · simp [Value.cells] at hcs
    obtain ⟨rfl, rfl, rfl⟩ := hcs
    exact ⟨[], rfl, by simp [maxLen], fun i h => by simp at h⟩
  · simp [Value.cells] at hcs
    obtain ⟨rfl, rfl, rfl⟩ := hcs
    have hzl : len ≤ zs.length := by rw [hz]; split <;> omega
    refine ⟨(zs.take len).map Int.toNat, by simp; omega, by omega, fun i hi => ?_⟩
    have hi2 : i < len := by simp at hi; omega
    obtain ⟨b, o, rfl, hc⟩ := ints_at hcell (by omega)
    have hci := hc i (by omega)
    have hw := hwz (zs[i]'(by omega)) (List.getElem_mem _)
    have hb := bounds_u8 hw
    have hg : zs.getD i 0 = zs[i]'(by omega) := by simp [List.getD, List.getElem?_eq_getElem (show i < zs.length from by omega)]
    rw [hg] at hci
    refine ⟨b, o, rfl, World.block_lt_of_cell? w _ hci, ?_, ?_⟩
    · simp only [List.getElem_map, List.getElem_take]
      omega
    · rw [hci]
      simp only [List.getElem_map, List.getElem_take]
      rw [Int.toNat_of_nonneg (by omega)]
theorem open_items (h : DataW.trod enc Try.prog w base spare held fuel 22 (Value.cells (.slice a len cap)).toList = some x) : ∃ xs, Items w w.heap.size a len xs := by
  rcases open_slice Try.underlying22 h with ⟨hcs, _⟩ | ⟨ad, l, c, m, n, D, Pl, hcs, _, hl, hm, hmm, _, hel⟩
  · simp [Value.cells] at hcs
    obtain ⟨rfl, rfl, rfl⟩ := hcs
    exact ⟨[], rfl, by simp [maxLen], fun i h => by simp at h⟩
  · simp [Value.cells] at hcs
    obtain ⟨rfl, rfl, rfl⟩ := hcs
    have hlm : len ≤ m := by rw [hmm]; split <;> omega
    have hC : Try.prog.cellsOf 32 = 3 := by kernel_rfl
    have plain : 0 < len → ∃ b o, ad = ⟨b, o, none⟩ := fun h0 => by
      obtain ⟨cs, hcells, _⟩ := hel 0 (by omega)
      rw [hC] at hcells
      obtain ⟨_, hcl, hat⟩ := World.cells?_some hcells
      have h1 := hat 0 (by omega)
      rw [Deep.add_add, List.getElem?_eq_getElem (by omega)] at h1
      exact addr_plain h1
    have one : ∀ i, i < len → ∃ x : Itm, ∃ b o, ad = ⟨b, o, none⟩ ∧ b < w.heap.size ∧ x.k < 256 ∧ x.n < 18446744073709551616 ∧ x.s.length ≤ maxLen ∧
        w.cell? ⟨b, o + i * 3, none⟩ = some (.int .u8 x.k) ∧ w.cell? ⟨b, o + i * 3 + 1, none⟩ = some (.int .u64 x.n) ∧ w.cell? ⟨b, o + i * 3 + 2, none⟩ = some (.string (str x.s)) := by
      intro i hi
      obtain ⟨cs, hcells, ht⟩ := hel i (by omega)
      rw [hC] at hcells
      obtain ⟨_, hcl, hat⟩ := World.cells?_some hcells
      match cs, hcl with
      | [c0, c1, c2], _ =>
        obtain ⟨y0, y1, y2, n', _, _, t0, t1, t2⟩ := trod_struct3 Try.underlying32 ht
        have q5 : Try.prog.cellsOf 5 = 1 := by kernel_rfl
        have q30 : Try.prog.cellsOf 30 = 1 := by kernel_rfl
        have q9 : Try.prog.cellsOf 9 = 1 := by kernel_rfl
        obtain ⟨k0, e0, _, w0⟩ := DataW.trod_int Try.underlying5 t0
        obtain ⟨n0, e1, _, w1⟩ := DataW.trod_int Try.underlying30 t1
        obtain ⟨s0, e2, _, w2⟩ := DataW.trod_string Try.underlying9 t2
        simp [q5] at e0
        simp [q30] at e1
        simp [q9] at e2
        subst e0 e1 e2
        have hk := bounds_u8 w0
        have hn := bounds_u64 w1
        have h0 := hat 0 (by omega)
        have h1 := hat 1 (by omega)
        have h2 := hat 2 (by omega)
        rw [Deep.add_add] at h0 h1 h2
        simp only [List.getElem?_cons_zero, List.getElem?_cons_succ] at h0 h1 h2
        obtain ⟨b, o, rfl⟩ := plain (by omega)
        rw [Go.WideShapes.add_plain] at h0 h1 h2
        refine ⟨⟨k0.toNat, n0.toNat, s0.data.toList⟩, b, o, rfl, World.block_lt_of_cell? w _ h0, by show k0.toNat < 256; omega, by show n0.toNat < 18446744073709551616; omega, ?_, ?_, ?_, ?_⟩
        · have := str_size s0.data.toList
          rw [← str_of] at this
          show s0.data.toList.length ≤ maxLen
          omega
        · show _ = some (Value.int .u8 (k0.toNat : Int))
          rw [Int.toNat_of_nonneg (by omega)]; exact h0
        · show _ = some (Value.int .u64 (n0.toNat : Int))
          rw [Int.toNat_of_nonneg (by omega), Nat.add_assoc]; exact h1
        · show _ = some (Value.string (str s0.data.toList))
          rw [← str_of, Nat.add_assoc]; exact h2
    refine ⟨(List.range len).pmap (fun i hi => Classical.choose (one i hi)) (fun i hi => List.mem_range.1 hi), by simp, by omega, fun i hi => ?_⟩
    have hi2 : i < len := by simpa using hi
    have hx : ((List.range len).pmap (fun i hi => Classical.choose (one i hi)) (fun i hi => List.mem_range.1 hi))[i]'hi = Classical.choose (one i hi2) := by simp
    rw [hx]
    obtain ⟨b, o, ha, hlt, h1, h2, h3, c0, c1, c2⟩ := Classical.choose_spec (one i hi2)
    exact ⟨b, o, by rw [ha], hlt, h1, h2, h3, c0, c1, c2⟩
end

theorem str_len (a : ByteArray) : a.data.toList.length = a.size := by
  have := str_size a.data.toList
  rw [← str_of] at this
  exact this.symm
theorem law_reads (w : World) (s : ByteArray) (a : Option Addr) (len cap : Nat) (ks : List Nat) (h : Kinds w w.heap.size a len ks) (hs : s.size ≤ maxLen) :
    Calls Try.prog 4 #[.string s, .slice a len cap] w fun E w' => E = .returned (.bool true) ∧ Below w.heap.size w w' := by
  have := lawReads w s.data.toList a len cap ks h (by rw [str_len]; exact hs)
  rwa [← str_of] at this
theorem law_one (w : World) (s : ByteArray) (a : Option Addr) (len cap : Nat) (ks : List Nat) (h : Kinds w w.heap.size a len ks) (hs : s.size ≤ maxLen) :
    Calls Try.prog 6 #[.string s, .slice a len cap] w fun E w' => E = .returned (.bool true) ∧ Below w.heap.size w w' := by
  have := lawOne w s.data.toList a len cap ks h (by rw [str_len]; exact hs)
  rwa [← str_of] at this
theorem law_back (w : World) (a : Option Addr) (len cap : Nat) (xs : List Itm) (s : ByteArray) (c : Int) (h : Items w w.heap.size a len xs) (hs : s.size ≤ maxLen) (hc : (Lit.int .u16 c).wf = true) :
    Calls Try.prog 5 #[.slice a len cap, .string s, .int .u16 c] w fun E w' => E = .returned (.bool true) ∧ Below w.heap.size w w' := by
  have hb : 0 ≤ c ∧ c < 65536 := by
    have := hc
    simp [Lit.wf, IntKind.min, IntKind.max, IntKind.bits, IntKind.signed] at this
    omega
  obtain ⟨n, rfl⟩ := Int.eq_ofNat_of_zero_le hb.1
  have := lawBack w a len cap xs s.data.toList n h (by rw [str_len]; exact hs) (by omega)
  rwa [← str_of] at this
end Go.Proofs.Ytdjiklokmiaieaa
