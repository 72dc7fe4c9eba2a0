/- A power in memory; New. -/
import Derived.Test.YthjhjbiihhpnfaaPb
import Derived.Test.YthjhjbiihhpnfaaDi
import Derived.Laws.AppendOwn
import Derived.Lib.SliceRun
namespace Go.Proofs.Ythjhjbiihhpnfaa
open Go.RowKit
set_option linter.unusedVariables false
set_option linter.unusedSimpArgs false
set_option maxRecDepth 100000

def b01 (b : Bool) : Int := if b then 1 else 0
/-- A power's cells: the disk, the fuse, the numbers to keep, the count, whether it is off, the Once. -/
def pcs (dv : Value) (ko : Option Addr) (kc : Nat) (p : Pw) : Array Value :=
  #[dv, .int .i64 p.fu, .slice ko p.ks.length kc, .int .i64 p.n, .int .u32 (b01 p.off), .int .u32 (b01 p.off), .int .i32 0, .int .u32 0]
/-- A power in block g; its disk in blocks of S, apart from it. -/
structure PwC (S : Nat → Prop) (w : World) (g : Nat) (dv : Value) (q : Nat) (ko : Option Addr) (kc : Nat) (p : Pw) : Prop where
  blk : Cells w g 54 (pcs dv ko kc p)
  ks : Ints w ko p.ks
  kl : p.ks.length ≤ 20
  kf : ∀ a, ko = some a → p.ks ≠ [] → (¬ S a.block ∧ a.block ≠ g) ∧ a.block < w.heap.size
  ng : ¬ S g
  dk : DkS S w dv q p.E
section
variable {S S' T : Nat → Prop} {w w' : World} {g q kc : Nat} {dv : Value} {ko : Option Addr} {p p' : Pw}
theorem PwC.mono (h : PwC S w g dv q ko kc p) (hs : ∀ x, x < w.heap.size → (S x ↔ S' x)) : PwC S' w g dv q ko kc p :=
  ⟨h.blk, h.ks, h.kl, fun a e hn => by
    have := h.kf a e hn
    exact ⟨⟨fun hx => this.1.1 ((hs _ this.2).2 hx), this.1.2⟩, this.2⟩, fun hx => h.ng ((hs _ h.blk.lt).2 hx), h.dk.mono fun x hx hS => (hs x hx).1 hS⟩
/-- A step that turns neither the power's blocks nor the disk's. -/
theorem PwC.tu (h : PwC S w g dv q ko kc p) (k : Tu T w w') (hg : ¬ T g) (hk : ∀ a, ko = some a → p.ks ≠ [] → ¬ T a.block) (hs : ∀ x, x < w.heap.size → S x → ¬ T x) : PwC S w' g dv q ko kc p :=
  ⟨h.blk.tu k hg, by
    by_cases h0 : p.ks = []
    · intro j hj; rw [h0] at hj; cases hj
    · exact h.ks.tu k fun a e => hk a e h0, h.kl, fun a e hn => ⟨(h.kf a e hn).1, Nat.lt_of_lt_of_le (h.kf a e hn).2 k.size⟩, h.ng, h.dk.tu k hs⟩
theorem PwC.new (h : PwC S w g dv q ko kc p) (k : Below w.heap.size w w') : PwC S w' g dv q ko kc p :=
  h.tu (T := fun _ => False) (.new k) (fun h => h) (fun _ _ _ h => h) (fun _ _ _ h => h)
theorem PwC.lt (h : PwC S w g dv q ko kc p) : g < w.heap.size := h.blk.lt
end
theorem DkS.ptr1 {S : Nat → Prop} {w : World} {v : Value} {q : Nat} {E : List Ent} (h : DkS S w v q E) : ∃ gd, v = .pointer (some ⟨gd, 0, none⟩) := by
  obtain ⟨gd, m, fs, rfl, _⟩ := h
  exact ⟨gd, rfl⟩

/-- 'slices.Clone' at numbers. -/
def ClonePost (ks : List Int) (w : World) : Ending → World → Prop := fun R w' => ∃ ko kc, R = .returned (.slice ko ks.length kc) ∧ Ints w' ko ks ∧ (∀ a, ko = some a → ks ≠ [] → w.heap.size ≤ a.block ∧ a.block < w'.heap.size) ∧ Below w.heap.size w w'
theorem row_ints {w : World} {base : Nat} {e : TypeId} {v : Value} {ks : List Int} (h : w.ownsRow base e 1 v ks.length (ks.map (Value.int .i64))) (hr : ∀ k ∈ ks, -9223372036854775808 ≤ k ∧ k ≤ 9223372036854775807) :
    ∃ ko kc, v = .slice ko ks.length kc ∧ Ints w ko ks ∧ (∀ a, ko = some a → ks ≠ [] → base ≤ a.block ∧ a.block < w.heap.size) := by
  have hc := fun g (e : v.ownBlock = some g) => World.ownsRow.cells (g := g) h e
  have hlt := fun g (e : v.ownBlock = some g) => h.lt g e
  rcases h.2 with ⟨rfl, h0⟩ | ⟨b, cap, cur, rfl, _⟩
  · obtain rfl : ks = [] := List.eq_nil_of_length_eq_zero h0
    exact ⟨none, 0, rfl, fun j hj => (by cases hj), fun a e => (by cases e)⟩
  · refine ⟨_, _, rfl, fun j hj => ⟨b, 0, rfl, ?_, hr _ (List.getElem_mem hj)⟩, fun a e _ => (by cases e; exact hlt b rfl)⟩
    have := hc b rfl j (.int .i64 (ks[j]'hj)) (by simp [hj])
    rw [show (⟨b, 0 + j, none⟩ : Addr) = (⟨b, 0, none⟩ : Addr).add j from by simp [Addr.add]]
    exact this
theorem Ints.rng {w : World} {ao : Option Addr} {ks : List Int} (h : Ints w ao ks) : ∀ k ∈ ks, -9223372036854775808 ≤ k ∧ k ≤ 9223372036854775807 := fun k hk => by
  obtain ⟨j, hj, rfl⟩ := List.getElem_of_mem hk
  obtain ⟨b, o, _, _, hr⟩ := h j hj
  exact hr
set_option maxHeartbeats 2000000 in
theorem iclone_c (ao : Option Addr) (ks : List Int) (cap : Nat) (w : World) (hi : Ints w ao ks) (hl : ks.length ≤ 20) :
    Calls Try.prog 18 #[.slice ao ks.length cap] w (ClonePost ks w) := by
  obtain ⟨i0, hi0, hz0, hz1, hz2⟩ := Go.info_parts (P := Try.prog) (e := 3) (z := .int .i64 0) (size := 1) (bytes := 8) (by kernel_rfl)
  have q22 : ∀ (w : World) (a : Option Addr) (n c n' c' : Nat), (binOp .eql 26 (.slice a n c) (.slice none n' c')).run Try.prog w = .ok (.bool a.isNone) w := fun w a n c n' c' => Lib.run_eql_slice_nil w _ _ a n c n' c' Try.underlying26
  have hrg := Lib.hid hi.rng
  have HI := Lib.hid hi
  have HL := Lib.hid hl
  cases ao with
  | none =>
    have h0 : ks = [] := by
      rcases ks with _ | ⟨k, r⟩
      · rfl
      · obtain ⟨b, o, e, _⟩ := hi 0 (by simp); cases e
    subst h0
    clear hi hl
    go_enter Try.func18, Try.ntmps18
    go_wp2
    go_ret
    exact ⟨none, 0, rfl, fun j hj => (by cases hj), fun a e => (by cases e), Below.refl _ w⟩
  | some ad =>
    have hcells : ∀ j u, (ks.map (Value.int .i64))[j]? = some u → w.cell? (ad.add j) = some u := fun j u hj => by
      have hjl : j < ks.length := by have := (List.getElem?_eq_some_iff.1 hj).1; simpa using this
      obtain ⟨b, o, e, hc, _⟩ := hi j hjl
      cases e
      rw [show (⟨b, o, none⟩ : Addr).add j = ⟨b, o + j, none⟩ from by simp [Addr.add], hc]
      simpa [hjl] using hj
    have HC := Lib.hid hcells
    clear hi hl hcells
    go_enter Try.func18, Try.ntmps18
    go_wp2_with (at_builtin; refine wpList_append_own _ rfl _ _ 26 rfl w.heap.size 3 i0 (.int .i64 0) 1 8 Try.underlying26 hi0 hz0 hz1 hz2 rfl (by decide) _ _ _ rfl (World.ownsRow_made w #[] 0 (Nat.le_refl _) (Nat.zero_le _) rfl) ad ks.length cap (ks.map (Value.int .i64)) rfl ?qc1 ?qc2 ?qc3 ?qc4 ?qc5 ?qc6 ?_)
    case qc1 => simp
    case qc2 => intro j u hj; exact Lib.cell?_alloc_some _ (HC.out j u hj)
    case qc3 => intro u hu; obtain ⟨x, _, rfl⟩ := List.mem_map.1 hu; rfl
    case qc4 => have := HL.out; unfold maxLen; omega
    case qc5 => have := HL.out; omega
    case qc6 => simp
    intro v' w1 hown hgrow _
    go_wp2
    go_ret
    have hown2 : w1.ownsRow w.heap.size 3 1 v' ks.length (ks.map (Value.int .i64)) := by simpa using hown
    obtain ⟨ko, kc, rfl, h1, h2⟩ := row_ints hown2 hrg.out
    exact ⟨ko, kc, rfl, h1, h2, ((Below.refl _ w).alloc (Nat.le_refl _) _).grown hgrow (by simp) (by intro k hk; simp [Value.ownBlock] at hk; omega)⟩
/-- New: a power that is on, over the disk. -/
def NewPw (S : Nat → Prop) (w : World) (dv : Value) (q : Nat) (fu : Int) (ks : List Int) (E : List Ent) : Ending → World → Prop := fun R w' =>
  ∃ g ko kc, R = .returned (.pointer (some ⟨g, 0, none⟩)) ∧ w.heap.size ≤ g ∧ (∀ a, ko = some a → ks ≠ [] → w.heap.size ≤ a.block) ∧ PwC (fun x => S x ∧ x < w.heap.size) w' g dv q ko kc ⟨fu, ks, 0, false, E⟩ ∧ Below w.heap.size w w'
set_option maxHeartbeats 1000000 in
theorem pnew_c {S : Nat → Prop} {dv : Value} {q : Nat} {E : List Ent} (fu : Int) (ao : Option Addr) (ks : List Int) (cap : Nat) (w : World) (h : DkS S w dv q E) (hi : Ints w ao ks) (hl : ks.length ≤ 20) :
    Calls Try.prog 5 #[dv, .int .i64 fu, .slice ao ks.length cap] w (NewPw S w dv q fu ks E) := by
  obtain ⟨gd, rfl⟩ := h.ptr1
  have HD := Lib.hid h
  have HI := Lib.hid hi
  have HL := Lib.hid hl
  clear h hi hl
  go_enter Try.func5, Try.ntmps5
  go_wp2_with fail
  refine (iclone_c ao ks cap w HI.out HL.out).mono ?_
  rintro R w1 ⟨ko, kc, rfl, h1, h2, hb⟩
  have H1 := Lib.hid h1
  have H2 := Lib.hid h2
  have HB := Lib.hid hb
  clear h1 h2 hb
  go_wp2
  go_ret
  have ha := below_alloc w1 (.cells #[.pointer (some ⟨gd, 0, none⟩), .int .i64 fu, .slice ko ks.length kc, .int .i64 0, .int .u32 0, .int .u32 0, .int .i32 0, .int .u32 0] 54)
  have hb := HB.out.trans (ha.mono HB.out.size)
  refine ⟨w1.heap.size, ko, kc, rfl, HB.out.size, fun a e hn => (H2.out a e hn).1, ⟨?_, ?_, HL.out, fun a e hn => ⟨⟨fun hx => ?_, ?_⟩, ?_⟩, fun hx => ?_, ?_⟩, hb⟩
  · exact Cells.made w1 _ _
  · exact H1.out.tu (S := fun _ => False) (.new ha) (fun _ _ h => h)
  · have := H2.out a e hn; omega
  · have := H2.out a e hn; omega
  · have := H2.out a e hn; have := ha.size; omega
  · have := HB.out.size; omega
  · exact (HD.out.mono (fun x hx hs => ⟨hs, hx⟩)).new hb
end Go.Proofs.Ythjhjbiihhpnfaa
