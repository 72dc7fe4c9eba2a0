/- Steps, each a manifest, a fuse, numbers to keep: read where they lie; a slice of them as an argument. -/
import Derived.Test.YtakejacamkdncaaGreatDoorMt
import Derived.Test.YtakejacamkdncaaGreatDoorDs
import Derived.Test.YtakejacamkdncaaGreatDoorPj
namespace Go.Proofs.YtakejacamkdncaaGreatDoor
open Go.ChangeShapes Go.WideShapes Go.RowKit Go.Deep
set_option linter.unusedVariables false
set_option linter.unusedSimpArgs false
set_option maxRecDepth 20000

structure Stp where
  m : Mf
  fu : Int
  ks : List Int
def stcs (s : Stp) (so : Option Addr) (sc : Nat) (co : Option Addr) (cc : Nat) (ko : Option Addr) (kc : Nat) : Array Value := #[.int .u64 (s.m.ep : Int), .int .u8 (s.m.pl : Int), .slice so s.m.sg.length sc, .slice co s.m.ck.length cc, .int .i64 s.fu, .slice ko s.ks.length kc]
/-- One step as it lies at an address. -/
structure StOne (w : World) (b o : Nat) (s : Stp) (so : Option Addr) (sc : Nat) (co : Option Addr) (cc : Nat) (ko : Option Addr) (kc : Nat) : Prop where
  at_ : ∀ i v, (stcs s so sc co cc ko kc)[i]? = some v → w.cell? ⟨b, o + i, none⟩ = some v
  m : MfAt w s.m so co
  n : co = none → cc = 0
  k : Ints w ko s.ks
  l : s.ks.length ≤ maxLen
def StAt (w : World) (lo : Option Addr) (l : List Stp) : Prop := ∀ k (hk : k < l.length), ∃ b o so sc co cc ko kc, lo = some ⟨b, o, none⟩ ∧ StOne w b (o + k * 6) (l[k]'hk) so sc co cc ko kc
theorem Ints.to {w w' : World} {ao : Option Addr} {ks : List Int} (h : Ints w ao ks) (hb : Below w.heap.size w w') : Ints w' ao ks := h.tu (S := fun _ => False) (.new hb) (fun _ _ h => h)
theorem StOne.lt {w : World} {b o : Nat} {s : Stp} {so co ko : Option Addr} {sc cc kc : Nat} (h : StOne w b o s so sc co cc ko kc) : b < w.heap.size := World.block_lt_of_cell? w _ (h.at_ 0 _ rfl)
theorem StOne.to {w w' : World} {b o : Nat} {s : Stp} {so co ko : Option Addr} {sc cc kc : Nat} (h : StOne w b o s so sc co cc ko kc) (hb : Below w.heap.size w w') : StOne w' b o s so sc co cc ko kc :=
  ⟨fun i v hv => (hb.cell (p := ⟨b, o + i, none⟩) h.lt).trans (h.at_ i v hv), h.m.to hb, h.n, h.k.to hb, h.l⟩
theorem StOne.man {w : World} {b o : Nat} {s : Stp} {so co ko : Option Addr} {sc cc kc : Nat} (h : StOne w b o s so sc co cc ko kc) : (ldT 34 (.pointer (some ⟨b, o, none⟩))).run Tryz.prog w = .ok (.agg (mcs s.m so sc co cc)) w :=
  run_ldV ty_man [.int .u64 (s.m.ep : Int), .int .u8 (s.m.pl : Int), .slice so s.m.sg.length sc, .slice co s.m.ck.length cc] rfl (fun j v hv => by
    match j, hv with
    | 0, hv => exact h.at_ 0 v hv
    | 1, hv => exact h.at_ 1 v hv
    | 2, hv => exact h.at_ 2 v hv
    | 3, hv => exact h.at_ 3 v hv)
theorem StOne.fuse {w : World} {b o : Nat} {s : Stp} {so co ko : Option Addr} {sc cc kc : Nat} (h : StOne w b o s so sc co cc ko kc) : w.cell? ⟨b, o + 4, none⟩ = some (.int .i64 s.fu) := h.at_ 4 _ rfl
theorem StOne.keep {w : World} {b o : Nat} {s : Stp} {so co ko : Option Addr} {sc cc kc : Nat} (h : StOne w b o s so sc co cc ko kc) : w.cell? ⟨b, o + 5, none⟩ = some (.slice ko s.ks.length kc) := h.at_ 5 _ rfl
/-- A slice of steps as it comes in. -/
def StArg (w : World) (a : Option Addr) (len : Nat) (l : List Stp) : Prop := l.length = len ∧ len ≤ maxLen ∧ StAt w a l
section
variable {H : Type} {enc : TypeId × Value → H} {w : World} {base : Nat} {spare : Nat → Bool} {held : Bool} {fuel : Nat}
theorem open_step {n : Nat} {c0 c1 c2 c3 c4 c5 : Value} {y : DataW H × List MemPlace} {b o : Nat} (h : DataW.trod enc Tryz.prog w base spare held n 37 [c0, c1, c2, c3, c4, c5] = some y)
    (hat : ∀ i v, (#[c0, c1, c2, c3, c4, c5] : Array Value)[i]? = some v → w.cell? ⟨b, o + i, none⟩ = some v) : ∃ (s : Stp) (so : Option Addr) (sc : Nat) (co : Option Addr) (cc : Nat) (ko : Option Addr) (kc : Nat), StOne w b o s so sc co cc ko kc := by
  have qm : Tryz.prog.cellsOf 34 = 4 := by kernel_rfl
  have qi : Tryz.prog.cellsOf 3 = 1 := by kernel_rfl
  have qk : Tryz.prog.cellsOf 35 = 1 := by kernel_rfl
  obtain ⟨n0, y0, h0⟩ := trod_field Tryz.underlying37 h (i := 0) rfl
  obtain ⟨n1, y1, h1⟩ := trod_field Tryz.underlying37 h (i := 1) rfl
  obtain ⟨n2, y2, h2⟩ := trod_field Tryz.underlying37 h (i := 2) rfl
  simp [qm] at h0
  obtain ⟨z1, e1, _, w1⟩ := DataW.trod_int Tryz.underlying3 h1
  simp [qi] at e1
  subst e1
  simp [qk] at h2
  obtain ⟨m, so, sc, co, cc, he, hm, hn⟩ := open_mf h0
  obtain ⟨ko, ks, kc, rfl, hl, hi⟩ := open_il h2
  simp only [mcs, Array.mk.injEq, List.cons.injEq, and_true] at he
  obtain ⟨rfl, rfl, rfl, rfl⟩ := he
  exact ⟨⟨m, z1, ks⟩, so, sc, co, cc, ko, kc, hat, hm, hn, hi, hl⟩
theorem open_steps {a : Option Addr} {len cap : Nat} {x : DataW H × List MemPlace} (h : DataW.trod enc Tryz.prog w base spare held fuel 22 (Value.cells (.slice a len cap)).toList = some x) : ∃ l, StArg w a len l := by
  rcases open_slice Tryz.underlying22 h with ⟨hcs, _⟩ | ⟨ad, len', cap', m, n, D, Pl, hcs, _, hl, hm, hmm, _, hel⟩
  · simp [Value.cells] at hcs
    obtain ⟨rfl, rfl, rfl⟩ := hcs
    exact ⟨[], rfl, by simp [maxLen], fun k h => by simp at h⟩
  · simp [Value.cells] at hcs
    obtain ⟨rfl, rfl, rfl⟩ := hcs
    have hlm : len ≤ m := by rw [hmm]; split <;> omega
    have hC : Tryz.prog.cellsOf 37 = 6 := by kernel_rfl
    have plain : 0 < len → ∃ b o, ad = ⟨b, o, none⟩ := fun h0 => by
      obtain ⟨cs, hcells, _⟩ := hel 0 (by omega)
      rw [hC] at hcells
      obtain ⟨_, hcl, hat⟩ := World.cells?_some hcells
      have h1 := hat 0 (by omega)
      rw [Deep.add_add, List.getElem?_eq_getElem (by omega)] at h1
      exact addr_flat h1
    have one : ∀ i, i < len → ∃ s : Stp, ∃ b o so sc co cc ko kc, some ad = some ⟨b, o, none⟩ ∧ StOne w b (o + i * 6) s so sc co cc ko kc := by
      intro i hi
      obtain ⟨cs, hcells, ht⟩ := hel i (by omega)
      rw [hC] at hcells
      obtain ⟨_, hcl, hat⟩ := World.cells?_some hcells
      match cs, hcl with
      | [c0, c1, c2, c3, c4, c5], _ =>
        obtain ⟨b, o, rfl⟩ := plain (by omega)
        obtain ⟨s, so, sc, co, cc, ko, kc, hs⟩ := open_step (b := b) (o := o + i * 6) ht (fun j v hv => by
          have hj : j < 6 := by
            obtain ⟨hj, _⟩ := Array.getElem?_eq_some_iff.1 hv
            simpa using hj
          have := hat j (by omega)
          rw [Deep.add_add, Go.WideShapes.add_plain, ← Nat.add_assoc] at this
          rw [this]
          simpa using hv)
        exact ⟨s, b, o, so, sc, co, cc, ko, kc, rfl, hs⟩
    refine ⟨(List.range len).pmap (fun i hi => Classical.choose (one i hi)) (fun i hi => List.mem_range.1 hi), by simp, Nat.le_trans hl hm, fun i hi => ?_⟩
    have hi2 : i < len := by simpa using hi
    have hx : ((List.range len).pmap (fun i hi => Classical.choose (one i hi)) (fun i hi => List.mem_range.1 hi))[i]'hi = Classical.choose (one i hi2) := by simp
    rw [hx]
    exact Classical.choose_spec (one i hi2)
end
end Go.Proofs.YtakejacamkdncaaGreatDoor
