/- The arguments of layer 10's statements as they come in: structs of texts, pairs and numbers taken apart; the rows' walks. -/
import Derived.Test.YtobfoenilfpiiaaDoorVj
import Derived.Test.YtobfoenilfpiiaaDoorGr
import Derived.Test.YtobfoenilfpiiaaDoorAe
import Derived.Test.YtobfoenilfpiiaaDoorLaid
import Derived.Test.YtobfoenilfpiiaaDoorVe
import Derived.Test.YtobfoenilfpiiaaDoorVf
import Derived.Test.YtobfoenilfpiiaaDoorVg
import Derived.Test.YtobfoenilfpiiaaDoorVh
import Derived.Test.YtobfoenilfpiiaaDoorVi
namespace Go.Proofs.YtobfoenilfpiiaaDoor
open Go.ChangeShapes Go.WideShapes Go.RowKit Go.Deep
set_option linter.unusedVariables false
set_option maxRecDepth 20000
section
variable {H : Type} {enc : TypeId × Value → H} {w : World} {base : Nat} {spare : Nat → Bool} {held : Bool}
theorem open_plist {fuel : Nat} {cs : List Value} {x : DataW H × List MemPlace} (h : DataW.trod enc Tryd.prog w base spare held fuel 38 cs = some x) : ∃ (l : List (Nat × Nat)) (lo : Option Addr) (cap : Nat), cs = [.slice lo l.length cap] ∧ PiArg w lo l.length cap l := by
  rcases open_slice Tryd.underlying38 h with ⟨rfl, _⟩ | ⟨ad, len, cap, m, n, D, Pl, rfl, _⟩
  · obtain ⟨l, hl⟩ := open_pis (a := none) (len := 0) (cap := 0) h
    have e := hl.1
    exact ⟨l, none, 0, by rw [e], by rw [e]; exact hl⟩
  · obtain ⟨l, hl⟩ := open_pis (a := some ad) (len := len) (cap := cap) h
    have e := hl.1
    exact ⟨l, some ad, cap, by rw [e], by rw [e]; exact hl⟩
theorem open_parts {r : Reach} {b0 : Nat} {v : Value} {d : DataW H} {p : List MemPlace} (hv : Value.okWide Tryd.prog w r b0 43 v) (h : DataW.Trod enc Tryd.prog w base spare held 43 v d p) :
    ∃ (A B : List UInt8) (n : Nat), v = .agg #[.string (str A), .string (str B), .int .u16 (n : Int)] ∧ A.length ≤ maxLen ∧ B.length ≤ maxLen ∧ n < 65536 := by
  obtain ⟨cs, rfl, hsz⟩ := okWide_struct Tryd.underlying43 hv
  rw [show Tryd.prog.cellsOf 43 = 3 by kernel_rfl] at hsz
  obtain ⟨c0, c1, c2, rfl⟩ : ∃ c0 c1 c2, cs = #[c0, c1, c2] := by
    obtain ⟨l⟩ := cs
    match l, hsz with
    | [c0, c1, c2], _ => exact ⟨c0, c1, c2, rfl⟩
  obtain ⟨fuel, hf⟩ := h
  have qs : Tryd.prog.cellsOf 9 = 1 := by kernel_rfl
  have q16 : Tryd.prog.cellsOf 27 = 1 := by kernel_rfl
  obtain ⟨n0, y0, h0⟩ := trod_field Tryd.underlying43 hf (i := 0) rfl
  obtain ⟨n1, y1, h1⟩ := trod_field Tryd.underlying43 hf (i := 1) rfl
  obtain ⟨n2, y2, h2⟩ := trod_field Tryd.underlying43 hf (i := 2) rfl
  obtain ⟨s0, e0, _, w0⟩ := DataW.trod_string Tryd.underlying9 h0
  obtain ⟨s1, e1, _, w1⟩ := DataW.trod_string Tryd.underlying9 h1
  obtain ⟨z2, e2, _, w2⟩ := DataW.trod_int Tryd.underlying27 h2
  simp [Value.cells, qs] at e0 e1
  simp [Value.cells, q16] at e2
  subst e0 e1 e2
  have b2 := bounds_u16 w2
  obtain ⟨n, rfl⟩ := Int.eq_ofNat_of_zero_le b2.1
  refine ⟨s0.data.toList, s1.data.toList, n, ?_, w0, w1, by omega⟩
  rw [← str_of, ← str_of]
theorem open_change {r : Reach} {b0 : Nat} {v : Value} {d : DataW H} {p : List MemPlace} (hv : Value.okWide Tryd.prog w r b0 46 v) (h : DataW.Trod enc Tryd.prog w base spare held 46 v d p) :
    ∃ (S : List UInt8) (l : List (Nat × Nat)) (lo : Option Addr) (cap n c p q : Nat), v = .agg #[.string (str S), .slice lo l.length cap, .int .u16 (n : Int), .int .u8 (c : Int), .int .u8 (p : Int), .int .u8 (q : Int)] ∧ S.length ≤ maxLen ∧ PiArg w lo l.length cap l ∧ n < 65536 ∧ c < 256 ∧ p < 256 ∧ q < 256 := by
  obtain ⟨cs, rfl, hsz⟩ := okWide_struct Tryd.underlying46 hv
  rw [show Tryd.prog.cellsOf 46 = 6 by kernel_rfl] at hsz
  obtain ⟨c0, c1, c2, c3, c4, c5, rfl⟩ : ∃ c0 c1 c2 c3 c4 c5, cs = #[c0, c1, c2, c3, c4, c5] := by
    obtain ⟨l⟩ := cs
    match l, hsz with
    | [c0, c1, c2, c3, c4, c5], _ => exact ⟨c0, c1, c2, c3, c4, c5, rfl⟩
  obtain ⟨fuel, hf⟩ := h
  have qs : Tryd.prog.cellsOf 9 = 1 := by kernel_rfl
  have q16 : Tryd.prog.cellsOf 27 = 1 := by kernel_rfl
  have q8 : Tryd.prog.cellsOf 5 = 1 := by kernel_rfl
  have ql : Tryd.prog.cellsOf 38 = 1 := by kernel_rfl
  have qp : Tryd.prog.cellsOf 37 = 2 := by kernel_rfl
  obtain ⟨n0, y0, h0⟩ := trod_field Tryd.underlying46 hf (i := 0) rfl
  obtain ⟨n1, y1, h1⟩ := trod_field Tryd.underlying46 hf (i := 1) rfl
  obtain ⟨n2, y2, h2⟩ := trod_field Tryd.underlying46 hf (i := 2) rfl
  obtain ⟨n3, y3, h3⟩ := trod_field Tryd.underlying46 hf (i := 3) rfl
  obtain ⟨n4, y4, h4⟩ := trod_field Tryd.underlying46 hf (i := 4) rfl
  obtain ⟨s0, e0, _, w0⟩ := DataW.trod_string Tryd.underlying9 h0
  obtain ⟨l, lo, cap, e1, hl⟩ := open_plist h1
  obtain ⟨z2, e2, _, w2⟩ := DataW.trod_int Tryd.underlying27 h2
  obtain ⟨z3, e3, _, w3⟩ := DataW.trod_int Tryd.underlying5 h3
  simp [Value.cells, qp] at h4
  obtain ⟨i, j, hi, hj, rfl, rfl⟩ := open_pi h4
  simp [Value.cells, qs] at e0
  simp [Value.cells, ql] at e1
  simp [Value.cells, q16] at e2
  simp [Value.cells, q8] at e3
  subst e0 e1 e2 e3
  have b2 := bounds_u16 w2
  have b3 := bounds_u8 w3
  obtain ⟨n, rfl⟩ := Int.eq_ofNat_of_zero_le b2.1
  obtain ⟨c, rfl⟩ := Int.eq_ofNat_of_zero_le b3.1
  refine ⟨s0.data.toList, l, lo, cap, n, c, i, j, ?_, w0, hl, by omega, by omega, hi, hj⟩
  rw [← str_of]
end
theorem rowJoins (d : Int) (s : ByteArray) (x : St) (ao : Option Addr) (cap : Nat) (W : World) (wd : (Lit.int .u64 d).wf = true) (hs : s.size ≤ maxLen) (hS : Shs W ao x.ss) (hf : x.fit) (hsl : x.ss.length ≤ maxLen) (ht : Tab W) :
    Calls Tryd.prog 3 #[.int .u64 d, .string s, sv x ao cap] W fun E w' => E = .returned (.bool true) ∧ Below W.heap.size W w' := by
  obtain ⟨k, rfl, hk⟩ := b64_nat wd
  rw [str_of s]
  exact law_joins k s.data.toList x ao cap W hk hs hS hf hsl ht
theorem rowMixes (d a b : Int) (lo : Option Addr) (len cap : Nat) (l : List (Nat × Nat)) (W : World) (wd : (Lit.int .u64 d).wf = true) (wa : (Lit.int .u8 a).wf = true) (wb : (Lit.int .u8 b).wf = true) (h : PiArg W lo len cap l) (ht : Tab W) :
    Calls Tryd.prog 4 #[.int .u64 d, .agg #[.int .u8 a, .int .u8 b], .slice lo len cap] W fun E w' => E = .returned (.bool true) ∧ Below W.heap.size W w' := by
  obtain ⟨k, rfl, hk⟩ := b64_nat wd
  obtain ⟨i, rfl, hi⟩ := b8_nat wa
  obtain ⟨j, rfl, hj⟩ := b8_nat wb
  obtain ⟨rfl, h1, h2, h3, hP⟩ := h
  exact law_mixes k i j l lo cap W hk hi hj hP (Nat.le_trans h1 h2) ht
theorem rowOn (d : Int) (A B : List UInt8) (n : Nat) (lo : Option Addr) (len cap : Nat) (l : List (Nat × Nat)) (W : World) (wd : (Lit.int .u64 d).wf = true) (hA : A.length ≤ maxLen) (hB : B.length ≤ maxLen) (hn : n < 65536) (h : PiArg W lo len cap l) (ht : Tab W) :
    Calls Tryd.prog 5 #[.int .u64 d, .agg #[.string (str A), .string (str B), .int .u16 (n : Int)], .slice lo len cap] W fun E w' => E = .returned (.bool true) ∧ Below W.heap.size W w' := by
  obtain ⟨k, rfl, hk⟩ := b64_nat wd
  obtain ⟨rfl, h1, h2, h3, hP⟩ := h
  exact law_on k A B n l lo cap W hk hA hB hn hP h1 h2 h3 ht
theorem rowApart (a b : Int) (S : List UInt8) (l : List (Nat × Nat)) (lo : Option Addr) (cap n c p q : Nat) (W : World) (wa : (Lit.int .u64 a).wf = true) (wb : (Lit.int .u64 b).wf = true) (hS : S.length ≤ maxLen) (h : PiArg W lo l.length cap l) (hn : n < 65536) (hc : c < 256) (hp : p < 256) (hq : q < 256) (ht : Tab W) :
    Calls Tryd.prog 6 #[.int .u64 a, .int .u64 b, .agg #[.string (str S), .slice lo l.length cap, .int .u16 (n : Int), .int .u8 (c : Int), .int .u8 (p : Int), .int .u8 (q : Int)]] W fun E w' => E = .returned (.bool true) ∧ Below W.heap.size W w' := by
  obtain ⟨i, rfl, hi⟩ := b64_nat wa
  obtain ⟨j, rfl, hj⟩ := b64_nat wb
  obtain ⟨_, h1, h2, h3, hP⟩ := h
  exact law_apart i j S l lo cap n c p q W hi hj hS hP (Nat.le_trans h1 h2) hn hc hp hq ht
end Go.Proofs.YtobfoenilfpiiaaDoor
