/- A power of a run's own; left, awake. -/
import Derived.Test.YthjhjbiihhpnfaaPi
namespace Go.Proofs.Ythjhjbiihhpnfaa
open Go.RowKit
set_option linter.unusedVariables false
set_option linter.unusedSimpArgs false
set_option maxRecDepth 100000

/-- A power that the run made since w0, and all that is new is its disk's. -/
structure PwR (S : Nat → Prop) (w0 w : World) (g : Nat) (dv : Value) (q : Nat) (ko : Option Addr) (kc : Nat) (p : Pw) : Prop where
  p : PwC S w g dv q ko kc p
  lo : ∀ x, S x → w0.heap.size ≤ x
  hg : w0.heap.size ≤ g
  new : ∀ x, w.heap.size ≤ x → S x
  be : Below w0.heap.size w0 w
section
variable {S : Nat → Prop} {w0 w w1 : World} {g q kc : Nat} {dv : Value} {ko : Option Addr} {p p' : Pw}
theorem PwR.step (h : PwR S w0 w g dv q ko kc p) (hp : PwC S w1 g dv q ko kc p') (ht : Tu (fun x => x = g ∨ S x) w w1) : PwR S w0 w1 g dv q ko kc p' :=
  ⟨hp, h.lo, h.hg, fun x hx => h.new x (Nat.le_trans ht.size hx), h.be.trans (ht.below (fun x hx e => by
    rcases e with e | e
    · have := h.hg; omega
    · have := h.lo x e; omega) h.be.size)⟩
theorem PwR.more (h : PwR S w0 w g dv q ko kc p) (hb : Below w.heap.size w w1) : PwR S w0 w1 g dv q ko kc p :=
  ⟨h.p.new hb, h.lo, h.hg, fun x hx => h.new x (Nat.le_trans hb.size hx), h.be.trans (hb.mono h.be.size)⟩
theorem PwR.made {S0 : Nat → Prop} (h : PwC (fun x => S0 x ∧ x < w.heap.size) w1 g dv q ko kc p) (hg : w.heap.size ≤ g) (hb : Below w.heap.size w w1) (hlo : ∀ x, S0 x → w0.heap.size ≤ x) (hb0 : Below w0.heap.size w0 w) :
    PwR (fun x => (S0 x ∧ x < w.heap.size) ∨ w1.heap.size ≤ x) w0 w1 g dv q ko kc p := by
  have hbb := hb0.trans (hb.mono hb0.size)
  refine ⟨h.mono (fun x hx => ⟨fun hs => .inl hs, fun hs => ?_⟩), fun x hx => ?_, Nat.le_trans hb0.size hg, fun x hx => .inr hx, hbb⟩
  · rcases hs with hs | hs
    · exact hs
    · omega
  · rcases hx with hx | hx
    · exact hlo x hx.1
    · exact Nat.le_trans hbb.size hx
end
/-- What the chapter's example leaves. -/
def lastE (ks : List Int) : List Ent := aCrash ks (if oddK ks then aAppend 100 (aCreate [] [97]) [97] [120, 121, 122] else aCreate [] [97])
def p0 (ks : List Int) : Pw := ⟨1, ks, 0, false, []⟩
def p1 (ks : List Int) : Pw := ⟨1, ks, 1, false, aCreate [] [97]⟩
def p2 (ks : List Int) : Pw := ⟨1, ks, 2, true, lastE ks⟩
theorem p0_c (ks : List Int) : (p0 ks).code (wrR 0 100 (p0 ks).E [97] []) = 0 := by
  show eCreate [] [97] = 0
  decide +kernel
theorem p0_a (ks : List Int) : (p0 ks).after (wrE 0 100 (p0 ks).E [97] []) = p1 ks := rfl
theorem p1_c (ks : List Int) (r : Nat) : (p1 ks).code r = 8 := rfl
theorem p1_a (ks : List Int) : (p1 ks).after (wrE 1 100 (p1 ks).E [97] [120, 121, 122]) = p2 ks := rfl
theorem p2_c (ks : List Int) (r : Nat) : (p2 ks).code r = 8 := rfl
theorem p2_a (ks : List Int) (E : List Ent) : (p2 ks).after E = p2 ks := rfl
set_option maxHeartbeats 4000000 in
theorem left_c (ao : Option Addr) (ks : List Int) (cap : Nat) (x : List UInt8) (w : World) (hi : Ints w ao ks) (hl : ks.length ≤ 20) (hx : rd (lastE ks) [97] = x) (hf : eFind (lastE ks) [97] = 0) :
    Calls Try.prog 15 #[.int .i64 1, .slice ao ks.length cap] w fun R w' => R = .returned (.string (str x)) ∧ Below w.heap.size w w' := by
  have hnot : ∀ (x : Bool) (w : World), (Op.unary .not (.bool x)).run Try.prog w = .ok (.bool (!x)) w := fun _ _ => rfl
  have HI := Lib.hid hi
  have HL := Lib.hid hl
  have HX := Lib.hid hx
  have HF := Lib.hid hf
  clear hi hl hx hf
  go_enter Try.func15, Try.ntmps15
  go_wp2_with fail
  refine (new_c 100 w).mono ?_
  rintro R w1 ⟨hb1, ⟨_, _, v, rfl, hd1⟩ | ⟨hbad, _⟩⟩
  rotate_left
  · omega
  obtain ⟨gd, rfl⟩ := hd1.ptr1
  have hd1' : DkS (fun x => w.heap.size ≤ x) w1 (.pointer (some ⟨gd, 0, none⟩)) 100 [] := hd1
  have D1 := Lib.hid hd1'
  have B1 := Lib.hid hb1
  clear hd1 hd1' hb1
  go_wp2_with fail
  refine (pnew_c 1 ao ks cap w1 D1.out (HI.out.tu (S := fun _ => False) (.new B1.out) (fun _ _ h => h)) HL.out).mono ?_
  rintro R w2 ⟨g, ko, kc, rfl, hg, _, hp2, hb2⟩
  have R2 := Lib.hid (PwR.made (w0 := w) (S0 := fun x => w.heap.size ≤ x) (p := p0 ks) hp2 hg hb2 (fun x hx => hx) B1.out)
  clear hg hp2 hb2 B1 D1
  generalize (fun x => (w.heap.size ≤ x ∧ x < w1.heap.size) ∨ w2.heap.size ≤ x) = S at *
  go_wp2_with fail
  refine (pcreate_c [97] [] w2 R2.out.p R2.out.new (by decide) (by decide) (by show 0 < 1000000; decide)).mono ?_
  rintro R w3 ⟨rfl, hp3, ht3⟩
  rw [p0_a] at hp3
  rw [p0_c]
  have R3 := Lib.hid (R2.out.step hp3 ht3)
  clear hp3 ht3 R2
  go_wp2_with fail
  refine (pappend_c [97] [120, 121, 122] w3 R3.out.p R3.out.new (by decide) (by decide) (by show 1 < 1000000; decide)).mono ?_
  rintro R w4 ⟨rfl, hp4, ht4⟩
  rw [p1_a] at hp4
  rw [p1_c]
  have R4 := Lib.hid (R3.out.step hp4 ht4)
  clear hp4 ht4 R3
  go_wp2_with fail
  refine (pappend_c [97] [119] w4 R4.out.p R4.out.new (by decide) (by decide) (by show 2 < 1000000; decide)).mono ?_
  rintro R w5 ⟨rfl, hp5, ht5⟩
  rw [p2_a] at hp5
  rw [p2_c]
  have R5 := Lib.hid (R4.out.step hp5 ht5)
  clear hp5 ht5 R4
  go_wp2_with fail
  refine (pread_c [97] w5 R5.out.p (by decide)).mono ?_
  rintro R w6 ⟨rfl, hb6⟩
  rw [show (p2 ks).rdc [97] = 8 from rfl]
  have R6 := Lib.hid (R5.out.more hb6)
  clear hb6 R5
  go_wp2_with fail
  refine (read_c [97] w6 R6.out.p.dk (by decide)).mono ?_
  rintro R w7 ⟨rfl, hb7⟩
  rw [show (p2 ks).E = lastE ks from rfl, HX.out, HF.out]
  have R7 := Lib.hid (R6.out.more hb7)
  clear hb7 R6
  go_wp2_with fail
  refine (pdown_c w7 R7.out.p).mono ?_
  rintro R w8 ⟨rfl, rfl⟩
  rw [show (p2 ks).off = true from rfl]
  go_wp2_with fail
  refine (pwrites_c w7 R7.out.p).mono ?_
  rintro R w8 ⟨rfl, rfl⟩
  rw [show (p2 ks).n = 2 from rfl]
  go_wp2
  go_ret
  exact ⟨rfl, R7.out.be⟩
theorem ints2 {w : World} {g : Nat} {t : TypeId} (a b : Int) (h : Cells w g t #[.int .i64 a, .int .i64 b]) (ha : -9223372036854775808 ≤ a ∧ a ≤ 9223372036854775807) (hb : -9223372036854775808 ≤ b ∧ b ≤ 9223372036854775807) : Ints w (some ⟨g, 0, none⟩) [a, b] := fun j hj => by
  refine ⟨g, 0, rfl, ?_⟩
  match j, hj with
  | 0, _ => exact ⟨h.cell 0, ha⟩
  | 1, _ => exact ⟨h.cell 1, hb⟩
theorem ints1 {w : World} {g : Nat} {t : TypeId} (a : Int) (h : Cells w g t #[.int .i64 a]) (ha : -9223372036854775808 ≤ a ∧ a ≤ 9223372036854775807) : Ints w (some ⟨g, 0, none⟩) [a] := fun j hj => by
  refine ⟨g, 0, rfl, ?_⟩
  match j, hj with
  | 0, _ => exact ⟨h.cell 0, ha⟩
theorem awake_c (w : World) : Calls Try.prog 17 #[] w fun R w' => R = .returned (.bool true) ∧ Below w.heap.size w w' := by
  have ha := below_alloc w (.cells #[.int .i64 1, .int .i64 2] 3)
  have A := Lib.hid ha
  have I2 := Lib.hid (ints2 1 2 (Cells.made w 3 #[.int .i64 1, .int .i64 2]) (by decide) (by decide))
  clear ha
  go_enter Try.func17, Try.ntmps17
  go_wp2_with fail
  refine (left_c _ [1, 2] 2 [120] _ I2.out (by decide) (by decide +kernel) (by decide +kernel)).mono ?_
  rintro R w1 ⟨rfl, hb1⟩
  have B1 := Lib.hid (A.out.trans (hb1.mono A.out.size))
  have ha := below_alloc w1 (.cells #[.int .i64 0] 3)
  have A1 := Lib.hid (B1.out.trans (ha.mono B1.out.size))
  have I1 := Lib.hid (ints1 0 (Cells.made w1 3 #[.int .i64 0]) (by decide))
  clear hb1 ha B1
  have q1 : ((str [120]).toList == [120]) = true := by decide +kernel
  go_wp2_with fail
  refine (left_c _ [0] 1 [] _ I1.out (by decide) (by decide +kernel) (by decide +kernel)).mono ?_
  rintro R w2 ⟨rfl, hb2⟩
  rw [str_nil]
  have B2 := Lib.hid (A1.out.trans (hb2.mono A1.out.size))
  clear hb2 A1
  go_wp2
  go_ret
  exact ⟨rfl, B2.out⟩
end Go.Proofs.Ythjhjbiihhpnfaa
