/- Texts of the walk. -/
import Derived.Test.YtgeaacabpnepmaaGreatDoorDb8
import Derived.Defers
import Derived.Laws.Pointers
import Derived.Laws.LoneSync
import Derived.RegionCalls
import Derived.ChangeAlike
import Derived.Test.YtgeaacabpnepmaaGreatDoorDz8
import Derived.Laws.AppendOwn
import Derived.Lib.SliceRun
/- Texts of elder layers, one behind the other. -/
/- A power in plain words: what it has, and what becomes of it. -/
namespace Go.Proofs.YtgeaacabpnepmaaGreatDoor
set_option linter.unusedVariables false

structure Pw where
  fu : Int
  ks : List Int
  n : Nat
  off : Bool
  E : List Ent
def oddK (ks : List Int) : Bool := match ks with | [] => false | k :: _ => k.tmod 2 != 0
def Pw.after (p : Pw) (E' : List Ent) : Pw :=
  if p.off then p else if (p.n : Int) = p.fu then { p with n := p.n + 1, off := true, E := aCrash p.ks (if oddK p.ks then E' else p.E) } else { p with n := p.n + 1, E := E' }
def Pw.code (p : Pw) (r : Nat) : Nat := if p.off then 8 else if (p.n : Int) = p.fu then 8 else r
def Pw.blow (p : Pw) : Pw := if p.off then p else { p with off := true, E := aCrash p.ks p.E }
def wrR (k q : Nat) (E : List Ent) (n t : List UInt8) : Nat :=
  match k with
  | 0 => eCreate E n
  | 1 => eAppend q E n t
  | 2 => eFind E n
  | 3 => eRename E n t
  | _ => eFind E n
def wrE (k q : Nat) (E : List Ent) (n t : List UInt8) : List Ent :=
  match k with
  | 0 => aCreate E n
  | 1 => aAppend q E n t
  | 2 => aSync E n
  | 3 => aRename E n t
  | _ => aRemove E n
def Pw.wr (k q : Nat) (n t : List UInt8) (p : Pw) : Pw := p.after (wrE k q p.E n t)
def Pw.wrc (k q : Nat) (n t : List UInt8) (p : Pw) : Nat := p.code (wrR k q p.E n t)
end Go.Proofs.YtgeaacabpnepmaaGreatDoor
/- sync.Once, sync.Mutex and sync/atomic, one goroutine: the calls that a power makes of them, each a contract of its own. -/
namespace Go.Proofs.YtgeaacabpnepmaaGreatDoor
open Go.RowKit
set_option linter.unusedVariables false
set_option maxRecDepth 100000

theorem disable (w : World) : (callFunc 264 #[]).run Tryz.prog w = .ok (.value (.tuple #[])) w := run_call_mark0 Tryz.func264 (by kernel_rfl) (by kernel_rfl) (by kernel_rfl) .disable (by kernel_rfl) w
theorem enable (w : World) : (callFunc 266 #[]).run Tryz.prog w = .ok (.value (.tuple #[])) w := run_call_mark0 Tryz.func266 (by kernel_rfl) (by kernel_rfl) (by kernel_rfl) .enable (by kernel_rfl) w
theorem acquire (a : Addr) (w : World) : (callFunc 267 #[.pointer (some a)]).run Tryz.prog w = .ok (.value (.tuple #[])) w := run_call_marked Tryz.func267 (by kernel_rfl) (by kernel_rfl) (by kernel_rfl) .acquire (by kernel_rfl) a w
theorem releaseMerge (a : Addr) (w : World) : (callFunc 269 #[.pointer (some a)]).run Tryz.prog w = .ok (.value (.tuple #[])) w := run_call_marked Tryz.func269 (by kernel_rfl) (by kernel_rfl) (by kernel_rfl) .releaseMerge (by kernel_rfl) a w

theorem bload_c (a : Addr) (d : Int) (w : World) (hc : w.cell? a = some (.int .u32 d)) :
    Calls Tryz.prog 111 #[.pointer (some a)] w fun R w' => R = .returned (.bool (d != 0)) ∧ w' = w := by
  have hl := run_call_load (P := Tryz.prog) Tryz.func154 (by kernel_rfl) (by kernel_rfl) (by kernel_rfl) .u32 (by kernel_rfl) hc
  go_enter Tryz.func111, Tryz.ntmps111
  go_wp2
  go_ret
  exact ⟨rfl, rfl⟩
theorem iadd_c (a : Addr) (d s : Int) (w : World) (hc : w.cell? a = some (.int .i64 d)) (hz : w.frozen? a = false) (hs : IntKind.i64.wrap (d + 1) = s) :
    Calls Tryz.prog 152 #[.pointer (some a), .int .i64 1] w fun R w' => R = .returned (.int .i64 s) ∧ w' = w.setCell a (.int .i64 s) := by
  have hadd := run_call_add (P := Tryz.prog) Tryz.func200 (by kernel_rfl) (by kernel_rfl) (by kernel_rfl) .i64 (by kernel_rfl) (y := 1) (s := s) hc hz (by rw [← hs]; simp [go_sem])
  go_enter Tryz.func152, Tryz.ntmps152
  go_wp2
  go_ret
  exact ⟨rfl, rfl⟩
theorem store_c (a : Addr) (x : Value) (w : World) (hc : w.cell? a = some x) (hz : w.frozen? a = false) :
    Calls Tryz.prog 114 #[.pointer (some a), .bool true] w fun R w' => R = .returned (.tuple #[]) ∧ w' = w.drew.setCell a (.int .u32 1) := by
  have hc' : w.drew.cell? a = some x := by go_simp
  have hz' : w.drew.frozen? a = false := by go_simp
  have hst := run_call_store (P := Tryz.prog) Tryz.func156 (by kernel_rfl) (by kernel_rfl) (by kernel_rfl) (by kernel_rfl) (k := .u32) (y := 1) hc' hz'
  go_enter Tryz.func114, Tryz.ntmps114
  go_wp2
  go_region_calls
  all_goals (go_end0; exact ⟨rfl, rfl⟩)
theorem store_deferred (a : Addr) (x : Value) (u : FrameMode) (w : World) (hc : w.cell? a = some x) (hz : w.frozen? a = false) :
    CallsD Tryz.prog 114 #[.pointer (some a), .bool true] u w fun e u' w' => u' = u ∧ (e = .returned (.tuple #[]) ∧ w' = w.drew.setCell a (.int .u32 1)) := by
  have hc' : w.drew.cell? a = some x := by go_simp
  have hz' : w.drew.frozen? a = false := by go_simp
  have hst := run_call_store (P := Tryz.prog) Tryz.func156 (by kernel_rfl) (by kernel_rfl) (by kernel_rfl) (by kernel_rfl) (k := .u32) (y := 1) hc' hz'
  go_enter_d Tryz.func114, Tryz.ntmps114
  go_wp2
  go_region_calls
  all_goals (go_end0; exact ⟨rfl, rfl⟩)
theorem unlock_deferred (a : Addr) (u : FrameMode) (w : World) (hc : w.cell? a = some (.int .i32 1)) (hz : w.frozen? a = false) :
    CallsD Tryz.prog 202 #[.pointer (some a)] u w fun e u' w' => u' = u ∧ (e = .returned (.tuple #[]) ∧ w' = w.setCell a (.int .i32 0)) := by
  have hd := disable
  have he := enable
  have hr := releaseMerge
  have hadd := run_call_add (P := Tryz.prog) Tryz.func270 (by kernel_rfl) (by kernel_rfl) (by kernel_rfl) .i32 (by kernel_rfl) (y := -1) (s := 0) hc hz (by simp [go_sem]; rfl)
  have hcv := run_convert_to_unsafe (P := Tryz.prog) (src := 349) (dst := 353) Tryz.underlying349 Tryz.underlying353 (by kernel_rfl) hc
  go_enter_d Tryz.func202, Tryz.ntmps202
  go_wp2
  go_end0
  go_wp2
theorem lock_free (a : Addr) (w : World) (hc : w.cell? a = some (.int .i32 0)) (hz : w.frozen? a = false) :
    Calls Tryz.prog 201 #[.pointer (some a)] w fun e w' => e = .returned (.tuple #[]) ∧ w' = w.setCell a (.int .i32 1) := by
  have hd := disable
  have he := enable
  have ha := acquire
  have hcas := run_call_cas_hit (P := Tryz.prog) Tryz.func265 (by kernel_rfl) (by kernel_rfl) (by kernel_rfl) .i32 (by kernel_rfl) (y := 1) hc hz
  have hc' : (w.setCell a (.int .i32 1)).cell? a = some (.int .i32 1) := World.cell?_setCell_same w a _ hc
  have hcv := run_convert_to_unsafe (P := Tryz.prog) (src := 349) (dst := 353) Tryz.underlying349 Tryz.underlying353 (by kernel_rfl) hc'
  go_enter Tryz.func201, Tryz.ntmps201
  go_wp2
  first | go_end0 | (simp only [Exit.inBlock, Exit.then]; refine bodyPost_ret (results_none rfl _ _ _) rfl ?_) | refine bodyPost_ret (results_none rfl _ _ _) rfl ?_
  go_wp2
end Go.Proofs.YtgeaacabpnepmaaGreatDoor
/- A power in memory; New. -/
namespace Go.Proofs.YtgeaacabpnepmaaGreatDoor
open Go.RowKit
set_option linter.unusedVariables false
set_option linter.unusedSimpArgs false
set_option maxRecDepth 100000

def b01 (b : Bool) : Int := if b then 1 else 0
def pcs (dv : Value) (ko : Option Addr) (kc : Nat) (p : Pw) : Array Value :=
  #[dv, .int .i64 p.fu, .slice ko p.ks.length kc, .int .i64 p.n, .int .u32 (b01 p.off), .int .u32 (b01 p.off), .int .i32 0, .int .u32 0]
structure PwC (S : Nat → Prop) (w : World) (g : Nat) (dv : Value) (q : Nat) (ko : Option Addr) (kc : Nat) (p : Pw) : Prop where
  blk : Cells w g 157 (pcs dv ko kc p)
  ks : Ints w ko p.ks
  kl : p.ks.length ≤ 20
  kf : ∀ a, ko = some a → p.ks ≠ [] → (¬ S a.block ∧ a.block ≠ g) ∧ a.block < w.heap.size
  ng : ¬ S g
  dk : DkS S w dv q p.E
section
variable {S S' T : Nat → Prop} {w w' : World} {g q kc : Nat} {dv : Value} {ko : Option Addr} {p p' : Pw}
theorem PwC.mono (h : PwC S w g dv q ko kc p) (hs : ∀ x, x < w.heap.size → (S x ↔ S' x)) : PwC S' w g dv q ko kc p :=
  ⟨h.blk, h.ks, h.kl, fun a e hn => by
    have := h.kf a e hn
    exact ⟨⟨fun hx => this.1.1 ((hs _ this.2).2 hx), this.1.2⟩, this.2⟩, fun hx => h.ng ((hs _ h.blk.lt).2 hx), h.dk.mono fun x hx hS => (hs x hx).1 hS⟩
theorem PwC.tu (h : PwC S w g dv q ko kc p) (k : Tu T w w') (hg : ¬ T g) (hk : ∀ a, ko = some a → p.ks ≠ [] → ¬ T a.block) (hs : ∀ x, x < w.heap.size → S x → ¬ T x) : PwC S w' g dv q ko kc p :=
  ⟨h.blk.tu k hg, by
    by_cases h0 : p.ks = []
    · intro j hj; rw [h0] at hj; cases hj
    · exact h.ks.tu k fun a e => hk a e h0, h.kl, fun a e hn => ⟨(h.kf a e hn).1, Nat.lt_of_lt_of_le (h.kf a e hn).2 k.size⟩, h.ng, h.dk.tu k hs⟩
theorem PwC.new (h : PwC S w g dv q ko kc p) (k : Below w.heap.size w w') : PwC S w' g dv q ko kc p :=
  h.tu (T := fun _ => False) (.new k) (fun h => h) (fun _ _ _ h => h) (fun _ _ _ h => h)
theorem PwC.lt (h : PwC S w g dv q ko kc p) : g < w.heap.size := h.blk.lt
end
theorem DkS.ptr1 {S : Nat → Prop} {w : World} {v : Value} {q : Nat} {E : List Ent} (h : DkS S w v q E) : ∃ gd, v = .pointer (some ⟨gd, 0, none⟩) := by
  obtain ⟨gd, m, fs, rfl, _⟩ := h
  exact ⟨gd, rfl⟩

def ClonePost (ks : List Int) (w : World) : Ending → World → Prop := fun R w' => ∃ ko kc, R = .returned (.slice ko ks.length kc) ∧ Ints w' ko ks ∧ (∀ a, ko = some a → ks ≠ [] → w.heap.size ≤ a.block ∧ a.block < w'.heap.size) ∧ Below w.heap.size w w'
theorem row_ints {w : World} {base : Nat} {e : TypeId} {v : Value} {ks : List Int} (h : w.ownsRow base e 1 v ks.length (ks.map (Value.int .i64))) (hr : ∀ k ∈ ks, -9223372036854775808 ≤ k ∧ k ≤ 9223372036854775807) :
    ∃ ko kc, v = .slice ko ks.length kc ∧ Ints w ko ks ∧ (∀ a, ko = some a → ks ≠ [] → base ≤ a.block ∧ a.block < w.heap.size) := by
  have hc := fun g (e : v.ownBlock = some g) => World.ownsRow.cells (g := g) h e
  have hlt := fun g (e : v.ownBlock = some g) => h.lt g e
  rcases h.2 with ⟨rfl, h0⟩ | ⟨b, cap, cur, rfl, _⟩
  · obtain rfl : ks = [] := List.eq_nil_of_length_eq_zero h0
    exact ⟨none, 0, rfl, fun j hj => (by cases hj), fun a e => (by cases e)⟩
  · refine ⟨_, _, rfl, fun j hj => ⟨b, 0, rfl, ?_, hr _ (List.getElem_mem hj)⟩, fun a e _ => (by cases e; exact hlt b rfl)⟩
    have := hc b rfl j (.int .i64 (ks[j]'hj)) (by simp [hj])
    rw [show (⟨b, 0 + j, none⟩ : Addr) = (⟨b, 0, none⟩ : Addr).add j from by simp [Addr.add]]
    exact this
theorem Ints.rng {w : World} {ao : Option Addr} {ks : List Int} (h : Ints w ao ks) : ∀ k ∈ ks, -9223372036854775808 ≤ k ∧ k ≤ 9223372036854775807 := fun k hk => by
  obtain ⟨j, hj, rfl⟩ := List.getElem_of_mem hk
  obtain ⟨b, o, _, _, hr⟩ := h j hj
  exact hr
set_option maxHeartbeats 2000000 in
theorem iclone_c (ao : Option Addr) (ks : List Int) (cap : Nat) (w : World) (hi : Ints w ao ks) (hl : ks.length ≤ 20) :
    Calls Tryz.prog 84 #[.slice ao ks.length cap] w (ClonePost ks w) := by
  obtain ⟨i0, hi0, hz0, hz1, hz2⟩ := Go.info_parts (P := Tryz.prog) (e := 3) (z := .int .i64 0) (size := 1) (bytes := 8) (by kernel_rfl)
  have q22 : ∀ (w : World) (a : Option Addr) (n c n' c' : Nat), (binOp .eql 42 (.slice a n c) (.slice none n' c')).run Tryz.prog w = .ok (.bool a.isNone) w := fun w a n c n' c' => Lib.run_eql_slice_nil w _ _ a n c n' c' Tryz.underlying42
  have hrg := Lib.hid hi.rng
  have HI := Lib.hid hi
  have HL := Lib.hid hl
  cases ao with
  | none =>
    have h0 : ks = [] := by
      rcases ks with _ | ⟨k, r⟩
      · rfl
      · obtain ⟨b, o, e, _⟩ := hi 0 (by simp); cases e
    subst h0
    clear hi hl
    go_enter Tryz.func84, Tryz.ntmps84
    go_wp2
    go_ret
    exact ⟨none, 0, rfl, fun j hj => (by cases hj), fun a e => (by cases e), Below.refl _ w⟩
  | some ad =>
    have hcells : ∀ j u, (ks.map (Value.int .i64))[j]? = some u → w.cell? (ad.add j) = some u := fun j u hj => by
      have hjl : j < ks.length := by have := (List.getElem?_eq_some_iff.1 hj).1; simpa using this
      obtain ⟨b, o, e, hc, _⟩ := hi j hjl
      cases e
      rw [show (⟨b, o, none⟩ : Addr).add j = ⟨b, o + j, none⟩ from by simp [Addr.add], hc]
      simpa [hjl] using hj
    have HC := Lib.hid hcells
    clear hi hl hcells
    go_enter Tryz.func84, Tryz.ntmps84
    go_wp2_with (at_builtin; refine wpList_append_own _ rfl _ _ 42 rfl w.heap.size 3 i0 (.int .i64 0) 1 8 Tryz.underlying42 hi0 hz0 hz1 hz2 rfl (by decide) _ _ _ rfl (World.ownsRow_made w #[] 0 (Nat.le_refl _) (Nat.zero_le _) rfl) ad ks.length cap (ks.map (Value.int .i64)) rfl ?qc1 ?qc2 ?qc3 ?qc4 ?qc5 ?qc6 ?_)
    case qc1 => simp
    case qc2 => intro j u hj; exact Lib.cell?_alloc_some _ (HC.out j u hj)
    case qc3 => intro u hu; obtain ⟨x, _, rfl⟩ := List.mem_map.1 hu; rfl
    case qc4 => have := HL.out; unfold maxLen; omega
    case qc5 => have := HL.out; omega
    case qc6 => simp
    intro v' w1 hown hgrow _
    go_wp2
    go_ret
    have hown2 : w1.ownsRow w.heap.size 3 1 v' ks.length (ks.map (Value.int .i64)) := by simpa using hown
    obtain ⟨ko, kc, rfl, h1, h2⟩ := row_ints hown2 hrg.out
    exact ⟨ko, kc, rfl, h1, h2, ((Below.refl _ w).alloc (Nat.le_refl _) _).grown hgrow (by simp) (by intro k hk; simp [Value.ownBlock] at hk; omega)⟩
def NewPw (S : Nat → Prop) (w : World) (dv : Value) (q : Nat) (fu : Int) (ks : List Int) (E : List Ent) : Ending → World → Prop := fun R w' =>
  ∃ g ko kc, R = .returned (.pointer (some ⟨g, 0, none⟩)) ∧ w.heap.size ≤ g ∧ (∀ a, ko = some a → ks ≠ [] → w.heap.size ≤ a.block) ∧ PwC (fun x => S x ∧ x < w.heap.size) w' g dv q ko kc ⟨fu, ks, 0, false, E⟩ ∧ Below w.heap.size w w'
set_option maxHeartbeats 1000000 in
theorem pnew_c {S : Nat → Prop} {dv : Value} {q : Nat} {E : List Ent} (fu : Int) (ao : Option Addr) (ks : List Int) (cap : Nat) (w : World) (h : DkS S w dv q E) (hi : Ints w ao ks) (hl : ks.length ≤ 20) :
    Calls Tryz.prog 29 #[dv, .int .i64 fu, .slice ao ks.length cap] w (NewPw S w dv q fu ks E) := by
  obtain ⟨gd, rfl⟩ := h.ptr1
  have HD := Lib.hid h
  have HI := Lib.hid hi
  have HL := Lib.hid hl
  clear h hi hl
  go_enter Tryz.func29, Tryz.ntmps29
  go_wp2_with fail
  refine (iclone_c ao ks cap w HI.out HL.out).mono ?_
  rintro R w1 ⟨ko, kc, rfl, h1, h2, hb⟩
  have H1 := Lib.hid h1
  have H2 := Lib.hid h2
  have HB := Lib.hid hb
  clear h1 h2 hb
  go_wp2
  go_ret
  have ha := below_alloc w1 (.cells #[.pointer (some ⟨gd, 0, none⟩), .int .i64 fu, .slice ko ks.length kc, .int .i64 0, .int .u32 0, .int .u32 0, .int .i32 0, .int .u32 0] 157)
  have hb := HB.out.trans (ha.mono HB.out.size)
  refine ⟨w1.heap.size, ko, kc, rfl, HB.out.size, fun a e hn => (H2.out a e hn).1, ⟨?_, ?_, HL.out, fun a e hn => ⟨⟨fun hx => ?_, ?_⟩, ?_⟩, fun hx => ?_, ?_⟩, hb⟩
  · exact Cells.made w1 _ _
  · exact H1.out.tu (S := fun _ => False) (.new ha) (fun _ _ h => h)
  · have := H2.out a e hn; omega
  · have := H2.out a e hn; omega
  · have := H2.out a e hn; have := ha.size; omega
  · have := HB.out.size; omega
  · exact (HD.out.mono (fun x hx hs => ⟨hs, hx⟩)).new hb
end Go.Proofs.YtgeaacabpnepmaaGreatDoor
/- A power goes off: the disk crashes, once. -/
namespace Go.Proofs.YtgeaacabpnepmaaGreatDoor
open Go.RowKit
set_option linter.unusedVariables false
set_option linter.unusedSimpArgs false
set_option maxRecDepth 100000

section
variable {S : Nat → Prop} {w w' : World} {g q kc : Nat} {dv : Value} {ko : Option Addr} {p : Pw}
theorem PwC.c0 (h : PwC S w g dv q ko kc p) : w.cell? ⟨g, 0, none⟩ = some dv := h.blk.cell 0
theorem PwC.c2 (h : PwC S w g dv q ko kc p) : w.cell? ⟨g, 2, none⟩ = some (.slice ko p.ks.length kc) := h.blk.cell 2
theorem PwC.c4 (h : PwC S w g dv q ko kc p) : w.cell? ⟨g, 4, none⟩ = some (.int .u32 (b01 p.off)) := h.blk.cell 4
theorem PwC.c5 (h : PwC S w g dv q ko kc p) : w.cell? ⟨g, 5, none⟩ = some (.int .u32 (b01 p.off)) := h.blk.cell 5
theorem PwC.c6 (h : PwC S w g dv q ko kc p) : w.cell? ⟨g, 6, none⟩ = some (.int .i32 0) := h.blk.cell 6
end
def Pw.dchk (p : Pw) : Nat := if p.off then 8 else 0
theorem pcheck_c {S : Nat → Prop} {g q : Nat} {dv : Value} {kc : Nat} {ko : Option Addr} {p : Pw} (w : World) (h : PwC S w g dv q ko kc p) :
    Calls Tryz.prog 69 #[.pointer (some ⟨g, 0, none⟩)] w fun R w' => R = .returned (.int .i64 (p.dchk : Nat)) ∧ w = w' := by
  obtain ⟨gd, rfl⟩ := h.dk.ptr1
  have c0 := h.c0
  have c4 := h.c4
  clear h
  have hz : p.dchk = if p.off then 8 else 0 := rfl
  rw [hz]
  clear hz
  generalize p.off = z at c4 ⊢
  cases z
  · have c4 := Lib.hid c4
    show Calls _ _ _ _ fun R w' => R = .returned (.int .i64 0) ∧ w = w'
    go_enter Tryz.func69, Tryz.ntmps69
    go_wp2_with fail
    refine (bload_c _ _ w c4.out).mono ?_
    rintro R w1 ⟨rfl, rfl⟩
    have hb : (b01 false != 0) = false := rfl
    rw [hb]
    go_wp2
    go_ret
    exact ⟨rfl, rfl⟩
  · have c4 := Lib.hid c4
    show Calls _ _ _ _ fun R w' => R = .returned (.int .i64 8) ∧ w = w'
    go_enter Tryz.func69, Tryz.ntmps69
    go_wp2_with fail
    refine (bload_c _ _ w c4.out).mono ?_
    rintro R w1 ⟨rfl, rfl⟩
    have hb : (b01 true != 0) = true := rfl
    rw [hb]
    go_wp2
    go_ret
    exact ⟨rfl, rfl⟩
def OffPost (S : Nat → Prop) (w : World) (g : Nat) (dv : Value) (q : Nat) (ko : Option Addr) (kc : Nat) (p : Pw) : Ending → World → Prop := fun R w' =>
  R = .returned (.tuple #[]) ∧ Cells w' g 157 #[dv, .int .i64 p.fu, .slice ko p.ks.length kc, .int .i64 p.n, .int .u32 1, .int .u32 0, .int .i32 1, .int .u32 0] ∧ Ints w' ko p.ks ∧ DkS S w' dv q (aCrash p.ks p.E) ∧ Tu (fun x => x = g ∨ S x) w w'
theorem tu_set (w : World) (g i : Nat) (u : Value) : Tu (fun x => x = g) w (w.setCell ⟨g, i, none⟩ u) := (Tu.grown (grown_set w g i u)).mono (fun x _ e => Option.some.inj e)
set_option maxHeartbeats 2000000 in
theorem off_c {S : Nat → Prop} {g q kc b : Nat} {dv : Value} {ko : Option Addr} {p : Pw} (w : World) (hc : Cells w g 157 #[dv, .int .i64 p.fu, .slice ko p.ks.length kc, .int .i64 p.n, .int .u32 0, .int .u32 0, .int .i32 1, .int .u32 0])
    (hi : Ints w ko p.ks) (hk : p.ks.length ≤ 20) (hkf : ∀ a, ko = some a → p.ks ≠ [] → (¬ S a.block ∧ a.block ≠ g) ∧ a.block < w.heap.size) (hn : ¬ S g) (hd : DkS S w dv q p.E)
    (hb : w.cell? ⟨b, 0, none⟩ = some (.pointer (some ⟨g, 0, none⟩))) (hgb : b ≠ g) :
    Calls Tryz.prog 113 #[.pointer (some ⟨b, 0, none⟩)] w (OffPost S w g dv q ko kc p) := by
  obtain ⟨gd, rfl⟩ := hd.ptr1
  have z4 := Lib.hid (hc.frozen 4)
  have c4 := Lib.hid (hc.cell 4)
  have HC := Lib.hid hc
  have HI := Lib.hid hi
  have HK := Lib.hid hk
  have HF := Lib.hid hkf
  have HD := Lib.hid hd
  have HB := Lib.hid hb
  clear hc hi hk hkf hd
  go_enter Tryz.func113, Tryz.ntmps113
  go_wp2_with fail
  refine (store_c ⟨g, 4, none⟩ (.int .u32 0) w c4.out z4.out).mono ?_
  rintro R w1 ⟨rfl, hw1⟩
  have ht : Tu (fun x => x = g) w w1 := by rw [hw1]; exact (Tu.refl (fun x => x = g) w).draw.trans (tu_set w.drew g 4 _) (fun _ _ h => h)
  have hc1 : Cells w1 g 157 #[.pointer (some ⟨gd, 0, none⟩), .int .i64 p.fu, .slice ko p.ks.length kc, .int .i64 p.n, .int .u32 1, .int .u32 0, .int .i32 1, .int .u32 0] := by rw [hw1]; exact HC.out.drew.set 4 _
  have hb1 : w1.cell? ⟨b, 0, none⟩ = some (.pointer (some ⟨g, 0, none⟩)) := by
    rw [World.cell?_of_block (w := w) (ht.block b (World.block_lt_of_cell? w _ HB.out) hgb)]; exact HB.out
  clear hw1 hb HB
  go_upto_region 1 with fail
  have T1 := Lib.hid ht.draw
  have C1 := Lib.hid hc1.drew
  have hbd : w1.drew.cell? ⟨b, 0, none⟩ = some (.pointer (some ⟨g, 0, none⟩)) := hb1
  clear ht hc1 hb1
  generalize hwd : w1.drew = wd at *
  have lb : ∀ W, W = wd → W.cell? ⟨b, 0, none⟩ = some (.pointer (some ⟨g, 0, none⟩)) := fun W e => e ▸ hbd
  have l0 : ∀ W, W = wd → W.cell? ⟨g, 0, none⟩ = some (.pointer (some ⟨gd, 0, none⟩)) := fun W e => e ▸ C1.out.cell 0
  have l2 : ∀ W, W = wd → W.cell? ⟨g, 2, none⟩ = some (.slice ko p.ks.length kc) := fun W e => e ▸ C1.out.cell 2
  have hs0 : wd = wd := rfl
  refine wp_region_till (S := fun w' => w' = wd) (by kernel_rfl) ?_
  rw [hwd]
  clear hwd hbd
  refine wpTill_take (i := 0) (v := ?va0) rfl (by kernel_rfl) (fun _ _ _ h => h) (Or.inl ⟨by rfl, ?hya0⟩) hs0 ?resta0
  case hya0 => (intro W hW; (try dsimp only at hW); go_simp; try with_reducible rfl)
  simp only [Act.put, List.setIfInBounds_toArray, List.set_cons_zero, List.set_cons_succ, List.getElem_toArray, List.getElem_cons_succ, List.getElem_cons_zero]
  refine wpTill_take (i := 1) (v := ?va1) rfl (by kernel_rfl) (fun _ _ _ h => h) (Or.inl ⟨by rfl, ?hya1⟩) hs0 ?resta1
  case hya1 => (intro W hW; (try dsimp only at hW); go_simp; try with_reducible rfl)
  simp only [Act.put, List.setIfInBounds_toArray, List.set_cons_zero, List.set_cons_succ, List.getElem_toArray, List.getElem_cons_succ, List.getElem_cons_zero]
  refine wpTill_take (i := 2) (v := ?va2) rfl (by kernel_rfl) (fun _ _ _ h => h) (Or.inl ⟨by rfl, ?hya2⟩) hs0 ?resta2
  case hya2 => (intro W hW; (try dsimp only at hW); go_simp; try with_reducible rfl)
  simp only [Act.put, List.setIfInBounds_toArray, List.set_cons_zero, List.set_cons_succ, List.getElem_toArray, List.getElem_cons_succ, List.getElem_cons_zero]
  refine wpTill_take (i := 3) (v := ?va3) rfl (by kernel_rfl) (fun _ _ _ h => h) (Or.inl ⟨by rfl, ?hya3⟩) hs0 ?resta3
  case hya3 => (intro W hW; (try dsimp only at hW); go_simp; try with_reducible rfl)
  simp only [Act.put, List.setIfInBounds_toArray, List.set_cons_zero, List.set_cons_succ, List.getElem_toArray, List.getElem_cons_succ, List.getElem_cons_zero]
  refine wpTill_take (i := 4) (v := ?va4) rfl (by kernel_rfl) (fun _ _ _ h => h) (Or.inl ⟨by rfl, ?hya4⟩) hs0 ?resta4
  case hya4 => (intro W hW; (try dsimp only at hW); go_simp; try with_reducible rfl)
  simp only [Act.put, List.setIfInBounds_toArray, List.set_cons_zero, List.set_cons_succ, List.getElem_toArray, List.getElem_cons_succ, List.getElem_cons_zero]
  refine wpTill_take (i := 5) (v := ?va5) rfl (by kernel_rfl) (fun _ _ _ h => h) (Or.inl ⟨by rfl, ?hya5⟩) hs0 ?resta5
  case hya5 => (intro W hW; (try dsimp only at hW); go_simp; try with_reducible rfl)
  simp only [Act.put, List.setIfInBounds_toArray, List.set_cons_zero, List.set_cons_succ, List.getElem_toArray, List.getElem_cons_succ, List.getElem_cons_zero]
  refine wpTill_take (i := 6) (v := ?va6) rfl (by kernel_rfl) (fun _ _ _ h => h) (Or.inl ⟨by rfl, ?hya6⟩) hs0 ?resta6
  case hya6 => (intro W hW; (try dsimp only at hW); go_simp; try with_reducible rfl)
  simp only [Act.put, List.setIfInBounds_toArray, List.set_cons_zero, List.set_cons_succ, List.getElem_toArray, List.getElem_cons_succ, List.getElem_cons_zero]
  refine wpTill_take (i := 7) (v := ?va7) rfl (by kernel_rfl) (fun _ _ _ h => h) (Or.inl ⟨by rfl, ?hya7⟩) hs0 ?resta7
  case hya7 => (intro W hW; (try dsimp only at hW); go_simp; try with_reducible rfl)
  simp only [Act.put, List.setIfInBounds_toArray, List.set_cons_zero, List.set_cons_succ, List.getElem_toArray, List.getElem_cons_succ, List.getElem_cons_zero]
  refine wpTill_run (i := 8) (by kernel_rfl) rfl hs0 (fun K hK => ?_)
  go_simp
  go_at_call 115
  have hi2 : Ints wd ko p.ks := by
    by_cases h0 : p.ks = []
    · intro j hj; rw [h0] at hj; cases hj
    · exact HI.out.tu T1.out (fun a e => (HF.out a e h0).1.2)
  refine (crash_s wd (HD.out.tu T1.out (fun x _ hx e => hn (e ▸ hx))) hi2 (Nat.le_trans HK.out (by decide)) (fun a e h0 => ⟨(HF.out a e h0).1.1, Nat.lt_of_lt_of_le (HF.out a e h0).2 T1.out.size⟩)).mono ?_
  rintro R w2 ⟨rfl, hd2, ht2⟩
  have D2 := Lib.hid hd2
  have T2 := Lib.hid ht2
  have hi3 : Ints w2 ko p.ks := by
    by_cases h0 : p.ks = []
    · intro j hj; rw [h0] at hj; cases hj
    · exact hi2.tu ht2 (fun a e => (HF.out a e h0).1.1)
  have I3 := Lib.hid hi3
  refine hK _ _ ?_
  clear hK K hd2 ht2 hi2 hi3 lb l0 l2
  refine wpTill_done (by kernel_rfl) ?_
  go_wp2
  go_end0
  exact ⟨rfl, C1.out.tu T2.out hn, I3.out, D2.out, (T1.out.mono (fun x _ h => .inl h)).trans T2.out (fun x _ h => .inr h)⟩
end Go.Proofs.YtgeaacabpnepmaaGreatDoor
/- sync.Once's Do and doSlow over a power that goes off; goOff, Blow. -/
namespace Go.Proofs.YtgeaacabpnepmaaGreatDoor
open Go.RowKit
set_option linter.unusedVariables false
set_option linter.unusedSimpArgs false
set_option maxRecDepth 100000

theorem PwC.tuK {S T : Nat → Prop} {w w' : World} {g q kc : Nat} {dv : Value} {ko : Option Addr} {p : Pw} (h : PwC S w g dv q ko kc p) (k : Tu T w w') (hs : ∀ x, x < w.heap.size → T x → x = g) : Ints w' ko p.ks ∧ DkS S w' dv q p.E := by
  refine ⟨?_, h.dk.tu k (fun x hx hS hT => h.ng (hs x hx hT ▸ hS))⟩
  by_cases h0 : p.ks = []
  · intro j hj; rw [h0] at hj; cases hj
  · exact h.ks.tu (k.mono (S' := fun x => T x ∧ x < w.heap.size) (fun x hx ht => ⟨ht, hx⟩)) (fun a e ht => (h.kf a e h0).1.2 (hs _ ht.2 ht.1))
def SlowPost (S : Nat → Prop) (w : World) (g : Nat) (dv : Value) (q : Nat) (ko : Option Addr) (kc : Nat) (p : Pw) : Ending → World → Prop := fun R w' =>
  R = .returned (.tuple #[]) ∧ PwC S w' g dv q ko kc { p with off := true, E := aCrash p.ks p.E } ∧ Tu (fun x => x = g ∨ S x) w w'
set_option maxHeartbeats 4000000 in
theorem slow_c {S : Nat → Prop} {g q kc b : Nat} {dv : Value} {ko : Option Addr} {p : Pw} (w : World) (h : PwC S w g dv q ko kc p) (ho : p.off = false)
    (hb : w.cell? ⟨b, 0, none⟩ = some (.pointer (some ⟨g, 0, none⟩))) (hgb : b ≠ g) :
    Calls Tryz.prog 155 #[.pointer (some ⟨g, 5, none⟩), .func (.func 113) #[] #[.pointer (some ⟨b, 0, none⟩)]] w (SlowPost S w g dv q ko kc p) := by
  have hnot : ∀ (x : Bool) (w : World), (Op.unary .not (.bool x)).run Tryz.prog w = .ok (.bool (!x)) w := fun _ _ => rfl
  have c6 := Lib.hid h.c6
  have z6 := Lib.hid (h.blk.frozen 6)
  have hblk := h.blk
  unfold pcs at hblk
  rw [ho] at hblk
  have HC := Lib.hid hblk
  have H := Lib.hid h
  have HB := Lib.hid hb
  have HO := Lib.hid ho
  clear hblk h hb ho
  go_enter_defers Tryz.func155, Tryz.ntmps155
  go_wp2_with fail
  refine (lock_free ⟨g, 6, none⟩ w c6.out z6.out).mono ?_
  rintro R w1 ⟨rfl, hw1⟩
  have ht1 : Tu (fun x => x = g) w w1 := by rw [hw1]; exact tu_set w g 6 _
  have hc1 : Cells w1 g 157 #[dv, .int .i64 p.fu, .slice ko p.ks.length kc, .int .i64 p.n, .int .u32 0, .int .u32 0, .int .i32 1, .int .u32 0] := by rw [hw1]; exact HC.out.set 6 _
  have hb1 : w1.cell? ⟨b, 0, none⟩ = some (.pointer (some ⟨g, 0, none⟩)) := by
    rw [World.cell?_of_block (w := w) (ht1.block b (World.block_lt_of_cell? w _ HB.out) hgb)]; exact HB.out
  have hk1 := H.out.tuK ht1 (fun x _ e => e)
  have C1 := Lib.hid hc1
  have T1 := Lib.hid ht1
  have B1 := Lib.hid hb1
  have K1 := Lib.hid hk1
  clear hw1 ht1 hc1 hb1 hk1 HC c6 z6 HB
  go_wp2_with fail
  refine (bload_c ⟨g, 5, none⟩ 0 w1 (C1.out.cell 5)).mono ?_
  rintro R w2 ⟨rfl, rfl⟩
  have hb0 : ((0 : Int) != 0) = false := rfl
  rw [hb0]
  go_wp2_with fail
  refine (off_c w2 C1.out K1.out.1 H.out.kl (fun a e hn => ⟨(H.out.kf a e hn).1, Nat.lt_of_lt_of_le (H.out.kf a e hn).2 T1.out.size⟩) H.out.ng K1.out.2 B1.out hgb).mono ?_
  rintro R w3 ⟨rfl, hc3, hi3, hd3, ht3⟩
  have C3 := Lib.hid hc3
  have I3 := Lib.hid hi3
  have D3 := Lib.hid hd3
  have T3 := Lib.hid (ht3 : Tu (fun x => x = g ∨ S x) w2 w3)
  clear hc3 hi3 hd3 ht3 C1 K1 B1
  go_wp2
  refine leaves_cons (f := 114) (args := #[.pointer (some ⟨g, 5, none⟩), .bool true]) (by simp) (by simp [go_sem]) ?_
  refine (store_deferred ⟨g, 5, none⟩ (.int .u32 0) .returning _ (C3.out.cell 5) (C3.out.frozen 5)).mono ?_
  rintro e u' w4 ⟨rfl, rfl, hw4⟩
  have ht4 : Tu (fun x => x = g) w3 w4 := by rw [hw4]; exact (Tu.refl (fun x => x = g) w3).draw.trans (tu_set w3.drew g 5 _) (fun _ _ h => h)
  have hc4 : Cells w4 g 157 #[dv, .int .i64 p.fu, .slice ko p.ks.length kc, .int .i64 p.n, .int .u32 1, .int .u32 1, .int .i32 1, .int .u32 0] := by rw [hw4]; exact C3.out.drew.set 5 _
  refine leaves_cons (f := 202) (args := #[.pointer (some ⟨g, 6, none⟩)]) (by simp [settle]) (by simp [go_sem]) ?_
  refine (unlock_deferred ⟨g, 6, none⟩ _ _ (hc4.cell 6) (hc4.frozen 6)).mono ?_
  rintro e u' w5 ⟨rfl, rfl, hw5⟩
  have ht5 : Tu (fun x => x = g) w4 w5 := by rw [hw5]; exact tu_set w4 g 6 _
  have hc5 : Cells w5 g 157 #[dv, .int .i64 p.fu, .slice ko p.ks.length kc, .int .i64 p.n, .int .u32 1, .int .u32 1, .int .i32 0, .int .u32 0] := by rw [hw5]; exact hc4.set 6 _
  have ht35 := ht4.trans ht5 (fun _ _ h => h)
  have htt : Tu (fun x => x = g ∨ S x) w w5 := ((T1.out.mono (fun x _ h => .inl h)).trans T3.out (fun _ _ h => h)).trans (ht35.mono (fun x _ h => (.inl h : x = g ∨ S x))) (fun _ _ h => h)
  have hfin : PwC S w5 g dv q ko kc { p with off := true, E := aCrash p.ks p.E } := by
    refine ⟨hc5, ?_, H.out.kl, fun a e hn => ⟨(H.out.kf a e hn).1, Nat.lt_of_lt_of_le (H.out.kf a e hn).2 htt.size⟩, H.out.ng, D3.out.tu ht35 (fun x _ hS e => H.out.ng (e ▸ hS))⟩
    by_cases h0 : p.ks = []
    · intro j hj
      have hj2 : j < p.ks.length := hj
      rw [h0] at hj2
      cases hj2
    · exact I3.out.tu ht35 (fun a e => (H.out.kf a e h0).1.2)
  simp only [Leaves, settle, results, Tryz.results155]
  simp
  exact ⟨rfl, hfin, htt⟩
end Go.Proofs.YtgeaacabpnepmaaGreatDoor
/- goOff, Blow, lastIsDone; what a power tells. -/
namespace Go.Proofs.YtgeaacabpnepmaaGreatDoor
open Go.RowKit
set_option linter.unusedVariables false
set_option linter.unusedSimpArgs false
set_option maxRecDepth 100000

set_option maxHeartbeats 1000000 in
/-- '(*sync.Once).Do', not yet done. -/
theorem do_first {S : Nat → Prop} {g q kc b : Nat} {dv : Value} {ko : Option Addr} {p : Pw} (w : World) (h : PwC S w g dv q ko kc p) (ho : p.off = false)
    (hb : w.cell? ⟨b, 0, none⟩ = some (.pointer (some ⟨g, 0, none⟩))) (hgb : b ≠ g) :
    Calls Tryz.prog 112 #[.pointer (some ⟨g, 5, none⟩), .func (.func 113) #[] #[.pointer (some ⟨b, 0, none⟩)]] w (SlowPost S w g dv q ko kc p) := by
  have hnot : ∀ (x : Bool) (w : World), (Op.unary .not (.bool x)).run Tryz.prog w = .ok (.bool (!x)) w := fun _ _ => rfl
  have c5 := h.c5
  rw [ho] at c5
  have C5 := Lib.hid c5
  have H := Lib.hid h
  have HO := Lib.hid ho
  clear c5 h ho
  go_enter Tryz.func112, Tryz.ntmps112
  go_wp2_with fail
  refine (bload_c ⟨g, 5, none⟩ _ w C5.out).mono ?_
  rintro R w2 ⟨rfl, rfl⟩
  have hb0 : (b01 false != 0) = false := rfl
  rw [hb0]
  go_wp2_with fail
  refine (slow_c w2 H.out HO.out hb hgb).mono ?_
  rintro R w3 ⟨rfl, h3⟩
  go_wp2
  go_end0
  exact ⟨rfl, h3⟩
theorem do_done {S : Nat → Prop} {g q kc : Nat} {dv fv : Value} {ko : Option Addr} {p : Pw} (w : World) (h : PwC S w g dv q ko kc p) (ho : p.off = true) :
    Calls Tryz.prog 112 #[.pointer (some ⟨g, 5, none⟩), fv] w fun R w' => R = .returned (.tuple #[]) ∧ w = w' := by
  have hnot : ∀ (x : Bool) (w : World), (Op.unary .not (.bool x)).run Tryz.prog w = .ok (.bool (!x)) w := fun _ _ => rfl
  have c5 := h.c5
  rw [ho] at c5
  have C5 := Lib.hid c5
  clear c5 h ho
  go_enter Tryz.func112, Tryz.ntmps112
  go_wp2_with fail
  refine (bload_c ⟨g, 5, none⟩ _ w C5.out).mono ?_
  rintro R w2 ⟨rfl, rfl⟩
  have hb0 : (b01 true != 0) = true := rfl
  rw [hb0]
  go_wp2
  go_end0
  exact ⟨rfl, rfl⟩
theorem blow_on {p : Pw} (h : p.off = false) : p.blow = { p with off := true, E := aCrash p.ks p.E } := by unfold Pw.blow; rw [h]; rfl
theorem blow_off {p : Pw} (h : p.off = true) : p.blow = p := by unfold Pw.blow; rw [h]; rfl
theorem goOff_c {S : Nat → Prop} {g q : Nat} {dv : Value} {kc : Nat} {ko : Option Addr} {p : Pw} (w : World) (h : PwC S w g dv q ko kc p) :
    Calls Tryz.prog 70 #[.pointer (some ⟨g, 0, none⟩)] w fun R w' => R = .returned (.tuple #[]) ∧ PwC S w' g dv q ko kc p.blow ∧ Tu (fun x => x = g ∨ S x) w w' := by
  have hmf : ∀ (fn : Fn) (first cap : Array Value) (w : World), (Instr.makeFunc fn first cap).run Tryz.prog w = .ok (.func fn first cap) w := fun _ _ _ _ => rfl
  have hlt := h.lt
  have ha := below_alloc w (.cells #[.pointer (some ⟨g, 0, none⟩)] 50)
  have hb : (w.alloc (.cells #[.pointer (some ⟨g, 0, none⟩)] 50)).cell? ⟨w.heap.size, 0, none⟩ = some (.pointer (some ⟨g, 0, none⟩)) := (Cells.made w _ _).cell 0
  have HW := Lib.hid ha
  have HB := Lib.hid hb
  have H1 := Lib.hid (h.new ha)
  have hne : w.heap.size ≠ g := by omega
  clear h ha hb hlt
  cases hz : p.off
  · rw [blow_on hz]
    have HZ := Lib.hid hz
    clear hz
    go_enter Tryz.func70, Tryz.ntmps70
    go_wp2_with fail
    refine (do_first _ H1.out HZ.out HB.out hne).mono ?_
    rintro R w3 ⟨rfl, h3, t3⟩
    have H3 := Lib.hid h3
    have T3 := Lib.hid t3
    clear h3 t3
    go_wp2
    go_end0
    exact ⟨rfl, H3.out, (Tu.new HW.out).trans T3.out (fun _ _ h => h)⟩
  · rw [blow_off hz]
    have HZ := Lib.hid hz
    clear hz
    go_enter Tryz.func70, Tryz.ntmps70
    go_wp2_with fail
    refine (do_done _ H1.out HZ.out).mono ?_
    rintro R w3 ⟨rfl, rfl⟩
    go_wp2
    go_end0
    exact ⟨rfl, H1.out, Tu.new HW.out⟩
theorem done_c {S : Nat → Prop} {g q : Nat} {dv : Value} {kc : Nat} {ko : Option Addr} {p : Pw} (w : World) (h : PwC S w g dv q ko kc p) :
    Calls Tryz.prog 153 #[.pointer (some ⟨g, 0, none⟩)] w fun R w' => R = .returned (.bool (oddK p.ks)) ∧ w = w' := by
  have c2 := h.c2
  have hi := h.ks
  have hk := h.kl
  clear h
  generalize p.ks = ks at *
  rcases ks with _ | ⟨k, r⟩
  · clear hi hk
    show Calls _ _ _ _ fun R w' => R = .returned (.bool false) ∧ w = w'
    go_enter Tryz.func153, Tryz.ntmps153
    go_wp2
    go_ret
    exact ⟨rfl, rfl⟩
  · obtain ⟨b, o, rfl, hc, h1, h2⟩ := hi 0 (by simp)
    rw [Nat.add_zero] at hc
    have hc : w.cell? ⟨b, o, none⟩ = some (.int .i64 k) := hc
    have h1 : -9223372036854775808 ≤ k := h1
    have h2 : k ≤ 9223372036854775807 := h2
    clear hi
    rw [List.length_cons] at hk c2
    obtain ⟨n, hn⟩ : ∃ n, r.length + 1 = n := ⟨_, rfl⟩
    rw [hn] at hk c2
    have hn0 : (0 : Int) < (n : Int) := by omega
    clear hn
    have hm : IntKind.i64.wrap (k.tmod 2) = k.tmod 2 := by
      have h3 := Int.natAbs_tmod k 2
      have h4 : k.natAbs % (2 : Int).natAbs < 2 := Nat.mod_lt _ (by decide)
      exact IntWalk.i64_in _ (by omega)
    show Calls _ _ _ _ fun R w' => R = .returned (.bool (k.tmod 2 != 0)) ∧ w = w'
    go_enter Tryz.func153, Tryz.ntmps153
    go_wp2
    go_ret
    exact ⟨rfl, rfl⟩
end Go.Proofs.YtgeaacabpnepmaaGreatDoor
/- A write of a power, whatever it calls of the disk. -/
namespace Go.Proofs.YtgeaacabpnepmaaGreatDoor
open Go.RowKit
set_option linter.unusedVariables false
set_option linter.unusedSimpArgs false
set_option maxRecDepth 100000

def WrPost (S : Nat → Prop) (w : World) (g : Nat) (dv : Value) (q : Nat) (ko : Option Addr) (kc : Nat) (p : Pw) (r : Nat) (E' : List Ent) : Ending → World → Prop := fun R w' =>
  R = .returned (.int .i64 (p.code r : Nat)) ∧ PwC S w' g dv q ko kc (p.after E') ∧ Tu (fun x => x = g ∨ S x) w w'
def Does (S : Nat → Prop) (w : World) (g : Nat) (K : Nat) (cap : Array Value) (dv : Value) (q : Nat) (E : List Ent) (r : Nat) (E' : List Ent) : Prop :=
  ∀ w1, Tu (fun x => x = g) w w1 → DkS S w1 dv q E → Calls Tryz.prog K (#[dv] ++ cap) w1 fun R w2 => R = .returned (.int .i64 (r : Nat)) ∧ DkS S w2 dv q E' ∧ Tu S w1 w2
theorem PwC.turn {S T : Nat → Prop} {w w' : World} {g q kc : Nat} {dv : Value} {ko : Option Addr} {p p' : Pw} (h : PwC S w g dv q ko kc p) (hk : p'.ks = p.ks) (k : Tu T w w') (hT : ∀ x, x < w.heap.size → T x → x = g ∨ S x)
    (hc : Cells w' g 157 (pcs dv ko kc p')) (hd : DkS S w' dv q p'.E) : PwC S w' g dv q ko kc p' := by
  refine ⟨hc, ?_, hk ▸ h.kl, fun a e hn => ?_, h.ng, hd⟩
  · rw [hk]
    by_cases h0 : p.ks = []
    · intro j hj; rw [h0] at hj; cases hj
    · exact h.ks.tu (k.mono (S' := fun x => T x ∧ x < w.heap.size) (fun x hx ht => ⟨ht, hx⟩)) (fun a e ht => by
        have := (h.kf a e h0).1
        rcases hT _ ht.2 ht.1 with e | e
        · exact this.2 e
        · exact this.1 e)
  · rw [hk] at hn
    exact ⟨(h.kf a e hn).1, Nat.lt_of_lt_of_le (h.kf a e hn).2 k.size⟩
set_option maxHeartbeats 4000000 in
theorem write_c {S : Nat → Prop} {g q K r kc : Nat} {ko : Option Addr} {dv : Value} {p : Pw} {cap : Array Value} {E' : List Ent} (hin : ∀ (args : Array Value) (w : World), (callFunc K args).run Tryz.prog w = .ok (.enter K args) w)
    (w : World) (h : PwC S w g dv q ko kc p) (hn : p.n < 1000000) (hdo : Does S w g K cap dv q p.E r E') :
    Calls Tryz.prog 107 #[.pointer (some ⟨g, 0, none⟩), .func (.func K) #[] cap] w (WrPost S w g dv q ko kc p r E') := by
  obtain ⟨gd, rfl⟩ := h.dk.ptr1
  have H0 := Lib.hid h
  have H := Lib.hid h
  have HDO := Lib.hid hdo
  clear h hdo
  cases hz : p.off
  rotate_left
  · have hcode : p.code r = 8 := by unfold Pw.code; rw [hz]; rfl
    have haft : p.after E' = p := by unfold Pw.after; rw [hz]; rfl
    have hchk : p.dchk = 8 := by unfold Pw.dchk; rw [hz]; rfl
    unfold WrPost
    rw [hcode, haft]
    clear hcode haft hz
    go_enter Tryz.func107, Tryz.ntmps107
    go_wp2_with fail
    refine (pcheck_c w H0.out).mono ?_
    rintro R w1 ⟨rfl, rfl⟩
    rw [hchk]
    go_wp2
    go_ret
    exact ⟨rfl, H0.out, Tu.refl _ w⟩
  have hchk : p.dchk = 0 := by unfold Pw.dchk; rw [hz]; rfl
  obtain ⟨m, hm⟩ : ∃ m : Int, m = (p.n : Int) + 1 := ⟨_, rfl⟩
  have hmw : IntKind.i64.wrap ((p.n : Int) + 1) = m := by rw [hm]; exact IntWalk.i64_in _ (by omega)
  have hmb : IntKind.i64.wrap (m - 1) = (p.n : Int) := by rw [hm, show (p.n : Int) + 1 - 1 = p.n by omega]; exact IntWalk.i64_in _ (by omega)
  have hcm : ((p.n + 1 : Nat) : Int) = m := by omega
  have hm0 : 0 < m := by omega
  have hmu : m < 9223372036854775807 := by omega
  have HM := Lib.hid hmw
  have HM2 := Lib.hid hcm
  clear hm hmw hcm
  have hpc : pcs (.pointer (some ⟨gd, 0, none⟩)) ko kc p = #[.pointer (some ⟨gd, 0, none⟩), .int .i64 p.fu, .slice ko p.ks.length kc, .int .i64 p.n, .int .u32 0, .int .u32 0, .int .i32 0, .int .u32 0] := by unfold pcs; rw [hz]; rfl
  have hc0 := H.out.blk
  rw [hpc] at hc0
  have C0 := Lib.hid hc0
  clear hpc hc0
  by_cases hf : (p.n : Int) = p.fu
  · have hcode : p.code r = 8 := by unfold Pw.code; rw [hz, if_pos hf]; rfl
    have haft : p.after E' = { p with n := p.n + 1, off := true, E := aCrash p.ks (if oddK p.ks then E' else p.E) } := by unfold Pw.after; rw [hz, if_pos hf]; rfl
    unfold WrPost
    rw [hcode, haft]
    have HZ := Lib.hid hz
    clear hcode haft hz
    cases hodd : oddK p.ks
    · have HO := Lib.hid hodd
      clear hodd
      have hfu : ((p.n : Int) != p.fu) = false := by simp [hf]
      have HF := Lib.hid hf
      clear hf
      go_enter Tryz.func107, Tryz.ntmps107
      go_wp2_with fail
      refine (pcheck_c w H0.out).mono ?_
      rintro R w1 ⟨rfl, rfl⟩
      rw [hchk]
      go_wp2_with fail
      refine (iadd_c ⟨g, 3, none⟩ p.n m w (C0.out.cell 3) (C0.out.frozen 3) HM.out).mono ?_
      rintro R w1 ⟨rfl, hw1⟩
      have ht1 : Tu (fun x => x = g) w w1 := by rw [hw1]; exact tu_set w g 3 _
      have hc1 : Cells w1 g 157 #[.pointer (some ⟨gd, 0, none⟩), .int .i64 p.fu, .slice ko p.ks.length kc, .int .i64 m, .int .u32 0, .int .u32 0, .int .i32 0, .int .u32 0] := by rw [hw1]; exact C0.out.set 3 _
      have hp1 : PwC S w1 g (.pointer (some ⟨gd, 0, none⟩)) q ko kc { p with n := p.n + 1 } := by
        refine H.out.turn rfl ht1 (fun x _ e => .inl e) ?_ (H.out.tuK ht1 (fun x _ e => e)).2
        unfold pcs
        rw [HZ.out, HM2.out]
        exact hc1
      have c0 := hc1.cell 0
      have c1 := hc1.cell 1
      have P1 := Lib.hid hp1
      have T1 := Lib.hid ht1
      clear hw1 ht1 hc1 hp1
      go_wp2_with fail
      refine (done_c (p := { p with n := p.n + 1 }) w1 P1.out).mono ?_
      rintro R w2 ⟨rfl, rfl⟩
      dsimp only
      rw [HO.out]
      go_wp2_with fail
      refine (goOff_c w1 P1.out).mono ?_
      rintro R w2 ⟨rfl, hp2, ht2⟩
      rw [blow_on (p := { p with n := p.n + 1 }) HZ.out] at hp2
      have P2 := Lib.hid hp2
      have T2 := Lib.hid ht2
      clear hp2 ht2
      go_wp2
      go_ret
      refine ⟨rfl, ?_, (T1.out.mono (fun x _ e => .inl e)).trans T2.out (fun _ _ h => h)⟩
      exact P2.out
    · have HO := Lib.hid hodd
      clear hodd
      have hfu : ((p.n : Int) != p.fu) = false := by simp [hf]
      have HF := Lib.hid hf
      clear hf
      go_enter Tryz.func107, Tryz.ntmps107
      go_wp2_with fail
      refine (pcheck_c w H0.out).mono ?_
      rintro R w1 ⟨rfl, rfl⟩
      rw [hchk]
      go_wp2_with fail
      refine (iadd_c ⟨g, 3, none⟩ p.n m w (C0.out.cell 3) (C0.out.frozen 3) HM.out).mono ?_
      rintro R w1 ⟨rfl, hw1⟩
      have ht1 : Tu (fun x => x = g) w w1 := by rw [hw1]; exact tu_set w g 3 _
      have hc1 : Cells w1 g 157 #[.pointer (some ⟨gd, 0, none⟩), .int .i64 p.fu, .slice ko p.ks.length kc, .int .i64 m, .int .u32 0, .int .u32 0, .int .i32 0, .int .u32 0] := by rw [hw1]; exact C0.out.set 3 _
      have hp1 : PwC S w1 g (.pointer (some ⟨gd, 0, none⟩)) q ko kc { p with n := p.n + 1 } := by
        refine H.out.turn rfl ht1 (fun x _ e => .inl e) ?_ (H.out.tuK ht1 (fun x _ e => e)).2
        unfold pcs
        rw [HZ.out, HM2.out]
        exact hc1
      have c0 := hc1.cell 0
      have c1 := hc1.cell 1
      have P1 := Lib.hid hp1
      have T1 := Lib.hid ht1
      clear hw1 ht1 hc1 hp1
      go_wp2_with fail
      refine (done_c (p := { p with n := p.n + 1 }) w1 P1.out).mono ?_
      rintro R w2 ⟨rfl, rfl⟩
      dsimp only
      rw [HO.out]
      go_wp2_with fail
      refine (HDO.out w1 T1.out P1.out.dk).mono ?_
      rintro R w2 ⟨rfl, hd2, ht2⟩
      have hp2 : PwC S w2 g (.pointer (some ⟨gd, 0, none⟩)) q ko kc { p with n := p.n + 1, E := E' } := P1.out.turn rfl ht2 (fun x _ h => .inr h) (P1.out.blk.tu ht2 P1.out.ng) hd2
      have P2 := Lib.hid hp2
      have T2 := Lib.hid ((T1.out.mono (fun x _ e => (.inl e : x = g ∨ S x))).trans ht2 (fun x _ h => .inr h))
      clear hd2 hp2 ht2 c0 c1
      go_wp2_with fail
      refine (goOff_c w2 P2.out).mono ?_
      rintro R w3 ⟨rfl, hp3, ht3⟩
      rw [blow_on (p := { p with n := p.n + 1, E := E' }) HZ.out] at hp3
      have P3 := Lib.hid hp3
      have T3 := Lib.hid ht3
      clear hp3 ht3
      go_wp2
      go_ret
      exact ⟨rfl, P3.out, T2.out.trans T3.out (fun _ _ h => h)⟩
  · have hcode : p.code r = r := by unfold Pw.code; rw [hz, if_neg hf]; rfl
    have haft : p.after E' = { p with n := p.n + 1, E := E' } := by unfold Pw.after; rw [hz, if_neg hf]; rfl
    unfold WrPost
    rw [hcode, haft]
    have HZ := Lib.hid hz
    clear hcode haft hz
    have hfu : ((p.n : Int) != p.fu) = true := by simp [hf]
    clear hf
    go_enter Tryz.func107, Tryz.ntmps107
    go_wp2_with fail
    refine (pcheck_c w H0.out).mono ?_
    rintro R w1 ⟨rfl, rfl⟩
    rw [hchk]
    go_wp2_with fail
    refine (iadd_c ⟨g, 3, none⟩ p.n m w (C0.out.cell 3) (C0.out.frozen 3) HM.out).mono ?_
    rintro R w1 ⟨rfl, hw1⟩
    have ht1 : Tu (fun x => x = g) w w1 := by rw [hw1]; exact tu_set w g 3 _
    have hc1 : Cells w1 g 157 #[.pointer (some ⟨gd, 0, none⟩), .int .i64 p.fu, .slice ko p.ks.length kc, .int .i64 m, .int .u32 0, .int .u32 0, .int .i32 0, .int .u32 0] := by rw [hw1]; exact C0.out.set 3 _
    have hp1 : PwC S w1 g (.pointer (some ⟨gd, 0, none⟩)) q ko kc { p with n := p.n + 1 } := by
      refine H.out.turn rfl ht1 (fun x _ e => .inl e) ?_ (H.out.tuK ht1 (fun x _ e => e)).2
      unfold pcs
      rw [HZ.out, HM2.out]
      exact hc1
    have c0 := hc1.cell 0
    have c1 := hc1.cell 1
    have P1 := Lib.hid hp1
    have T1 := Lib.hid ht1
    clear hw1 ht1 hc1 hp1
    go_wp2_with fail
    refine (HDO.out w1 T1.out P1.out.dk).mono ?_
    rintro R w2 ⟨rfl, hd2, ht2⟩
    have hp2 : PwC S w2 g (.pointer (some ⟨gd, 0, none⟩)) q ko kc { p with n := p.n + 1, E := E' } := P1.out.turn rfl ht2 (fun x _ h => .inr h) (P1.out.blk.tu ht2 P1.out.ng) hd2
    have P2 := Lib.hid hp2
    have T2 := Lib.hid ((T1.out.mono (fun x _ e => (.inl e : x = g ∨ S x))).trans ht2 (fun x _ h => .inr h))
    clear hd2 hp2 ht2 c0 c1
    go_wp2
    go_ret
    exact ⟨rfl, P2.out, T2.out⟩
end Go.Proofs.YtgeaacabpnepmaaGreatDoor
/- The five writes of a power; what it tells. -/
namespace Go.Proofs.YtgeaacabpnepmaaGreatDoor
open Go.RowKit
set_option linter.unusedVariables false
set_option linter.unusedSimpArgs false
set_option maxRecDepth 100000

theorem enters {P : Program} {f : FuncId} {fn : Func} {c : Code} (hf : P.funcs[f]? = some fn) (hname : (fn.name == "runtime.NumGoroutine") = false) (hb : fn.body = some c) : ∀ (args : Array Value) (w : World), (callFunc f args).run P w = .ok (.enter f args) w := fun args w => by
  have h1 : fn.name ≠ "runtime.NumGoroutine" := by simpa using hname
  simp [callFunc, hf, h1, hb]
def WPost (S : Nat → Prop) (w : World) (g : Nat) (dv : Value) (q : Nat) (ko : Option Addr) (kc : Nat) (p : Pw) (k : Nat) (n t : List UInt8) : Ending → World → Prop   := WrPost S w g dv q ko kc p (wrR k q p.E n t) (wrE k q p.E n t)
theorem ckept {w w1 : World} {g b : Nat} {v : Value} (ht : Tu (fun x => x = g) w w1) (hb : w.cell? ⟨b, 0, none⟩ = some v) (hgb : b ≠ g) : w1.cell? ⟨b, 0, none⟩ = some v := by
  rw [World.cell?_of_block (w := w) (ht.block b (World.block_lt_of_cell? w _ hb) hgb)]; exact hb
theorem does_create {S : Nat → Prop} {g q b : Nat} {dv : Value} {E : List Ent} (n t : List UInt8) (w : World) (hS : ∀ x, w.heap.size ≤ x → S x) (hn : n.length ≤ maxLen) (hl : t.length ≤ maxLen) (hb : w.cell? ⟨b, 0, none⟩ = some (.string (str n))) (hgb : b ≠ g) :
    Does S w g 204 #[.pointer (some ⟨b, 0, none⟩)] dv q E (wrR 0 q E n t) (wrE 0 q E n t) := by
  intro w1 ht1 hd
  obtain ⟨gd, rfl⟩ := hd.ptr1
  have c1 := ckept ht1 hb hgb

  have HD := Lib.hid hd
  have HC := Lib.hid (create_c n w1 hd (fun x hx => hS x (Nat.le_trans ht1.size hx)) hn)
  clear hb hd ht1 hS
  rw [show (#[.pointer (some ⟨gd, 0, none⟩)] ++ #[.pointer (some ⟨b, 0, none⟩)] : Array Value) = #[.pointer (some ⟨gd, 0, none⟩), .pointer (some ⟨b, 0, none⟩)] from by simp]
  show Calls _ _ _ _ fun R w2 => R = .returned (.int .i64 (wrR 0 q E n t : Nat)) ∧ DkS S w2 (.pointer (some ⟨gd, 0, none⟩)) q (wrE 0 q E n t) ∧ Tu S w1 w2
  unfold wrR wrE
  go_enter Tryz.func204, Tryz.ntmps204
  go_wp2_with fail
  refine HC.out.mono ?_
  rintro R w2 ⟨rfl, hd2, ht2⟩
  have D2 := Lib.hid hd2
  have T2 := Lib.hid ht2
  clear hd2 ht2
  go_wp2
  go_ret
  exact ⟨rfl, D2.out, T2.out⟩
set_option maxHeartbeats 1000000 in
theorem pcreate_c {S : Nat → Prop} {g q : Nat} {dv : Value} {kc : Nat} {ko : Option Addr} {p : Pw} (n t : List UInt8) (w : World) (h : PwC S w g dv q ko kc p) (hS : ∀ x, w.heap.size ≤ x → S x) (hn : n.length ≤ maxLen) (hl : t.length ≤ maxLen) (hp : p.n < 1000000) :
    Calls Tryz.prog 162 #[.pointer (some ⟨g, 0, none⟩), .string (str n)] w (WPost S w g dv q ko kc p 0 n t) := by
  have hmf : ∀ (fn : Fn) (first cap : Array Value) (w : World), (Instr.makeFunc fn first cap).run Tryz.prog w = .ok (.func fn first cap) w := fun _ _ _ _ => rfl
  have hlt := h.lt
  have ha := below_alloc w (.cells #[.string (str n)] 9)
  have hb := (Cells.made w 9 #[.string (str n)]).cell 0
  have A := Lib.hid ha
  have HW := Lib.hid (write_c (enters Tryz.func204 (by kernel_rfl) rfl) _ (h.new ha) hp (does_create n t _ (fun x hx => hS x (Nat.le_trans ha.size hx)) hn hl hb (by omega)))
  clear ha hb hS h hlt
  go_enter Tryz.func162, Tryz.ntmps162
  go_wp2_with fail
  refine HW.out.mono ?_
  rintro R w1 ⟨rfl, hp1, ht1⟩
  have P1 := Lib.hid hp1
  have T1 := Lib.hid ht1
  clear hp1 ht1
  go_wp2
  go_ret
  exact ⟨rfl, P1.out, (Tu.new A.out).trans T1.out (fun _ _ h => h)⟩
theorem does_append {S : Nat → Prop} {g q b : Nat} {b2 : Nat} {dv : Value} {E : List Ent} (n t : List UInt8) (w : World) (hS : ∀ x, w.heap.size ≤ x → S x) (hn : n.length ≤ maxLen) (hl : t.length ≤ maxLen) (hb : w.cell? ⟨b, 0, none⟩ = some (.string (str n))) (hgb : b ≠ g) (hb2 : w.cell? ⟨b2, 0, none⟩ = some (.string (str t))) (hgb2 : b2 ≠ g) :
    Does S w g 198 #[.pointer (some ⟨b, 0, none⟩), .pointer (some ⟨b2, 0, none⟩)] dv q E (wrR 1 q E n t) (wrE 1 q E n t) := by
  intro w1 ht1 hd
  obtain ⟨gd, rfl⟩ := hd.ptr1
  have c1 := ckept ht1 hb hgb
  have c2 := ckept ht1 hb2 hgb2
  have HD := Lib.hid hd
  have HC := Lib.hid (append_c n t w1 hd (fun x hx => hS x (Nat.le_trans ht1.size hx)) hn hl)
  clear hb hb2 hd ht1 hS
  rw [show (#[.pointer (some ⟨gd, 0, none⟩)] ++ #[.pointer (some ⟨b, 0, none⟩), .pointer (some ⟨b2, 0, none⟩)] : Array Value) = #[.pointer (some ⟨gd, 0, none⟩), .pointer (some ⟨b, 0, none⟩), .pointer (some ⟨b2, 0, none⟩)] from by simp]
  show Calls _ _ _ _ fun R w2 => R = .returned (.int .i64 (wrR 1 q E n t : Nat)) ∧ DkS S w2 (.pointer (some ⟨gd, 0, none⟩)) q (wrE 1 q E n t) ∧ Tu S w1 w2
  unfold wrR wrE
  go_enter Tryz.func198, Tryz.ntmps198
  go_wp2_with fail
  refine HC.out.mono ?_
  rintro R w2 ⟨rfl, hd2, ht2⟩
  have D2 := Lib.hid hd2
  have T2 := Lib.hid ht2
  clear hd2 ht2
  go_wp2
  go_ret
  exact ⟨rfl, D2.out, T2.out⟩
set_option maxHeartbeats 1000000 in
theorem pappend_c {S : Nat → Prop} {g q : Nat} {dv : Value} {kc : Nat} {ko : Option Addr} {p : Pw} (n t : List UInt8) (w : World) (h : PwC S w g dv q ko kc p) (hS : ∀ x, w.heap.size ≤ x → S x) (hn : n.length ≤ maxLen) (hl : t.length ≤ maxLen) (hp : p.n < 1000000) :
    Calls Tryz.prog 151 #[.pointer (some ⟨g, 0, none⟩), .string (str n), .string (str t)] w (WPost S w g dv q ko kc p 1 n t) := by
  have hmf : ∀ (fn : Fn) (first cap : Array Value) (w : World), (Instr.makeFunc fn first cap).run Tryz.prog w = .ok (.func fn first cap) w := fun _ _ _ _ => rfl
  have hlt := h.lt
  have ha := below_alloc w (.cells #[.string (str n)] 9)
  have hb := (Cells.made w 9 #[.string (str n)]).cell 0
  have ha2 := below_alloc (w.alloc (.cells #[.string (str n)] 9)) (.cells #[.string (str t)] 9)
  have hb2 := (Cells.made (w.alloc (.cells #[.string (str n)] 9)) 9 #[.string (str t)]).cell 0
  have hb1 := ((Cells.made w 9 #[.string (str n)]).alloc (.cells #[.string (str t)] 9)).cell 0
  have ha3 := ha.trans (ha2.mono ha.size)
  have hsz : (w.alloc (.cells #[.string (str n)] 9)).heap.size = w.heap.size + 1 := World.size_alloc w _
  rw [hsz] at hb2
  have A := Lib.hid ha3
  have HW := Lib.hid (write_c (enters Tryz.func198 (by kernel_rfl) rfl) _ (h.new ha3) hp (does_append n t _ (fun x hx => hS x (Nat.le_trans ha3.size hx)) hn hl hb1 (by omega) hb2 (by omega)))
  clear ha ha2 ha3 hb hb1 hb2 hsz hS h hlt
  go_enter Tryz.func151, Tryz.ntmps151
  go_wp2_with fail
  refine HW.out.mono ?_
  rintro R w1 ⟨rfl, hp1, ht1⟩
  have P1 := Lib.hid hp1
  have T1 := Lib.hid ht1
  clear hp1 ht1
  go_wp2
  go_ret
  exact ⟨rfl, P1.out, (Tu.new A.out).trans T1.out (fun _ _ h => h)⟩
theorem does_sync {S : Nat → Prop} {g q b : Nat} {dv : Value} {E : List Ent} (n t : List UInt8) (w : World) (hS : ∀ x, w.heap.size ≤ x → S x) (hn : n.length ≤ maxLen) (hl : t.length ≤ maxLen) (hb : w.cell? ⟨b, 0, none⟩ = some (.string (str n))) (hgb : b ≠ g) :
    Does S w g 108 #[.pointer (some ⟨b, 0, none⟩)] dv q E (wrR 2 q E n t) (wrE 2 q E n t) := by
  intro w1 ht1 hd
  obtain ⟨gd, rfl⟩ := hd.ptr1
  have c1 := ckept ht1 hb hgb

  have HD := Lib.hid hd
  have HC := Lib.hid (sync_c n w1 hd hn)
  clear hb hd ht1 hS
  rw [show (#[.pointer (some ⟨gd, 0, none⟩)] ++ #[.pointer (some ⟨b, 0, none⟩)] : Array Value) = #[.pointer (some ⟨gd, 0, none⟩), .pointer (some ⟨b, 0, none⟩)] from by simp]
  show Calls _ _ _ _ fun R w2 => R = .returned (.int .i64 (wrR 2 q E n t : Nat)) ∧ DkS S w2 (.pointer (some ⟨gd, 0, none⟩)) q (wrE 2 q E n t) ∧ Tu S w1 w2
  unfold wrR wrE
  go_enter Tryz.func108, Tryz.ntmps108
  go_wp2_with fail
  refine HC.out.mono ?_
  rintro R w2 ⟨rfl, hd2, ht2⟩
  have D2 := Lib.hid hd2
  have T2 := Lib.hid ht2
  clear hd2 ht2
  go_wp2
  go_ret
  exact ⟨rfl, D2.out, T2.out⟩
set_option maxHeartbeats 1000000 in
theorem psync_c {S : Nat → Prop} {g q : Nat} {dv : Value} {kc : Nat} {ko : Option Addr} {p : Pw} (n t : List UInt8) (w : World) (h : PwC S w g dv q ko kc p) (hS : ∀ x, w.heap.size ≤ x → S x) (hn : n.length ≤ maxLen) (hl : t.length ≤ maxLen) (hp : p.n < 1000000) :
    Calls Tryz.prog 64 #[.pointer (some ⟨g, 0, none⟩), .string (str n)] w (WPost S w g dv q ko kc p 2 n t) := by
  have hmf : ∀ (fn : Fn) (first cap : Array Value) (w : World), (Instr.makeFunc fn first cap).run Tryz.prog w = .ok (.func fn first cap) w := fun _ _ _ _ => rfl
  have hlt := h.lt
  have ha := below_alloc w (.cells #[.string (str n)] 9)
  have hb := (Cells.made w 9 #[.string (str n)]).cell 0
  have A := Lib.hid ha
  have HW := Lib.hid (write_c (enters Tryz.func108 (by kernel_rfl) rfl) _ (h.new ha) hp (does_sync n t _ (fun x hx => hS x (Nat.le_trans ha.size hx)) hn hl hb (by omega)))
  clear ha hb hS h hlt
  go_enter Tryz.func64, Tryz.ntmps64
  go_wp2_with fail
  refine HW.out.mono ?_
  rintro R w1 ⟨rfl, hp1, ht1⟩
  have P1 := Lib.hid hp1
  have T1 := Lib.hid ht1
  clear hp1 ht1
  go_wp2
  go_ret
  exact ⟨rfl, P1.out, (Tu.new A.out).trans T1.out (fun _ _ h => h)⟩
theorem does_rename {S : Nat → Prop} {g q b : Nat} {b2 : Nat} {dv : Value} {E : List Ent} (n t : List UInt8) (w : World) (hS : ∀ x, w.heap.size ≤ x → S x) (hn : n.length ≤ maxLen) (hl : t.length ≤ maxLen) (hb : w.cell? ⟨b, 0, none⟩ = some (.string (str n))) (hgb : b ≠ g) (hb2 : w.cell? ⟨b2, 0, none⟩ = some (.string (str t))) (hgb2 : b2 ≠ g) :
    Does S w g 239 #[.pointer (some ⟨b, 0, none⟩), .pointer (some ⟨b2, 0, none⟩)] dv q E (wrR 3 q E n t) (wrE 3 q E n t) := by
  intro w1 ht1 hd
  obtain ⟨gd, rfl⟩ := hd.ptr1
  have c1 := ckept ht1 hb hgb
  have c2 := ckept ht1 hb2 hgb2
  have HD := Lib.hid hd
  have HC := Lib.hid (rename_c n t w1 hd hn hl)
  clear hb hb2 hd ht1 hS
  rw [show (#[.pointer (some ⟨gd, 0, none⟩)] ++ #[.pointer (some ⟨b, 0, none⟩), .pointer (some ⟨b2, 0, none⟩)] : Array Value) = #[.pointer (some ⟨gd, 0, none⟩), .pointer (some ⟨b, 0, none⟩), .pointer (some ⟨b2, 0, none⟩)] from by simp]
  show Calls _ _ _ _ fun R w2 => R = .returned (.int .i64 (wrR 3 q E n t : Nat)) ∧ DkS S w2 (.pointer (some ⟨gd, 0, none⟩)) q (wrE 3 q E n t) ∧ Tu S w1 w2
  unfold wrR wrE
  go_enter Tryz.func239, Tryz.ntmps239
  go_wp2_with fail
  refine HC.out.mono ?_
  rintro R w2 ⟨rfl, hd2, ht2⟩
  have D2 := Lib.hid hd2
  have T2 := Lib.hid ht2
  clear hd2 ht2
  go_wp2
  go_ret
  exact ⟨rfl, D2.out, T2.out⟩
set_option maxHeartbeats 1000000 in
theorem prename_c {S : Nat → Prop} {g q : Nat} {dv : Value} {kc : Nat} {ko : Option Addr} {p : Pw} (n t : List UInt8) (w : World) (h : PwC S w g dv q ko kc p) (hS : ∀ x, w.heap.size ≤ x → S x) (hn : n.length ≤ maxLen) (hl : t.length ≤ maxLen) (hp : p.n < 1000000) :
    Calls Tryz.prog 209 #[.pointer (some ⟨g, 0, none⟩), .string (str n), .string (str t)] w (WPost S w g dv q ko kc p 3 n t) := by
  have hmf : ∀ (fn : Fn) (first cap : Array Value) (w : World), (Instr.makeFunc fn first cap).run Tryz.prog w = .ok (.func fn first cap) w := fun _ _ _ _ => rfl
  have hlt := h.lt
  have ha := below_alloc w (.cells #[.string (str n)] 9)
  have hb := (Cells.made w 9 #[.string (str n)]).cell 0
  have ha2 := below_alloc (w.alloc (.cells #[.string (str n)] 9)) (.cells #[.string (str t)] 9)
  have hb2 := (Cells.made (w.alloc (.cells #[.string (str n)] 9)) 9 #[.string (str t)]).cell 0
  have hb1 := ((Cells.made w 9 #[.string (str n)]).alloc (.cells #[.string (str t)] 9)).cell 0
  have ha3 := ha.trans (ha2.mono ha.size)
  have hsz : (w.alloc (.cells #[.string (str n)] 9)).heap.size = w.heap.size + 1 := World.size_alloc w _
  rw [hsz] at hb2
  have A := Lib.hid ha3
  have HW := Lib.hid (write_c (enters Tryz.func239 (by kernel_rfl) rfl) _ (h.new ha3) hp (does_rename n t _ (fun x hx => hS x (Nat.le_trans ha3.size hx)) hn hl hb1 (by omega) hb2 (by omega)))
  clear ha ha2 ha3 hb hb1 hb2 hsz hS h hlt
  go_enter Tryz.func209, Tryz.ntmps209
  go_wp2_with fail
  refine HW.out.mono ?_
  rintro R w1 ⟨rfl, hp1, ht1⟩
  have P1 := Lib.hid hp1
  have T1 := Lib.hid ht1
  clear hp1 ht1
  go_wp2
  go_ret
  exact ⟨rfl, P1.out, (Tu.new A.out).trans T1.out (fun _ _ h => h)⟩
theorem does_remove {S : Nat → Prop} {g q b : Nat} {dv : Value} {E : List Ent} (n t : List UInt8) (w : World) (hS : ∀ x, w.heap.size ≤ x → S x) (hn : n.length ≤ maxLen) (hl : t.length ≤ maxLen) (hb : w.cell? ⟨b, 0, none⟩ = some (.string (str n))) (hgb : b ≠ g) :
    Does S w g 175 #[.pointer (some ⟨b, 0, none⟩)] dv q E (wrR 4 q E n t) (wrE 4 q E n t) := by
  intro w1 ht1 hd
  obtain ⟨gd, rfl⟩ := hd.ptr1
  have c1 := ckept ht1 hb hgb

  have HD := Lib.hid hd
  have HC := Lib.hid (remove_c n w1 hd hn)
  clear hb hd ht1 hS
  rw [show (#[.pointer (some ⟨gd, 0, none⟩)] ++ #[.pointer (some ⟨b, 0, none⟩)] : Array Value) = #[.pointer (some ⟨gd, 0, none⟩), .pointer (some ⟨b, 0, none⟩)] from by simp]
  show Calls _ _ _ _ fun R w2 => R = .returned (.int .i64 (wrR 4 q E n t : Nat)) ∧ DkS S w2 (.pointer (some ⟨gd, 0, none⟩)) q (wrE 4 q E n t) ∧ Tu S w1 w2
  unfold wrR wrE
  go_enter Tryz.func175, Tryz.ntmps175
  go_wp2_with fail
  refine HC.out.mono ?_
  rintro R w2 ⟨rfl, hd2, ht2⟩
  have D2 := Lib.hid hd2
  have T2 := Lib.hid ht2
  clear hd2 ht2
  go_wp2
  go_ret
  exact ⟨rfl, D2.out, T2.out⟩
set_option maxHeartbeats 1000000 in
theorem premove_c {S : Nat → Prop} {g q : Nat} {dv : Value} {kc : Nat} {ko : Option Addr} {p : Pw} (n t : List UInt8) (w : World) (h : PwC S w g dv q ko kc p) (hS : ∀ x, w.heap.size ≤ x → S x) (hn : n.length ≤ maxLen) (hl : t.length ≤ maxLen) (hp : p.n < 1000000) :
    Calls Tryz.prog 123 #[.pointer (some ⟨g, 0, none⟩), .string (str n)] w (WPost S w g dv q ko kc p 4 n t) := by
  have hmf : ∀ (fn : Fn) (first cap : Array Value) (w : World), (Instr.makeFunc fn first cap).run Tryz.prog w = .ok (.func fn first cap) w := fun _ _ _ _ => rfl
  have hlt := h.lt
  have ha := below_alloc w (.cells #[.string (str n)] 9)
  have hb := (Cells.made w 9 #[.string (str n)]).cell 0
  have A := Lib.hid ha
  have HW := Lib.hid (write_c (enters Tryz.func175 (by kernel_rfl) rfl) _ (h.new ha) hp (does_remove n t _ (fun x hx => hS x (Nat.le_trans ha.size hx)) hn hl hb (by omega)))
  clear ha hb hS h hlt
  go_enter Tryz.func123, Tryz.ntmps123
  go_wp2_with fail
  refine HW.out.mono ?_
  rintro R w1 ⟨rfl, hp1, ht1⟩
  have P1 := Lib.hid hp1
  have T1 := Lib.hid ht1
  clear hp1 ht1
  go_wp2
  go_ret
  exact ⟨rfl, P1.out, (Tu.new A.out).trans T1.out (fun _ _ h => h)⟩
end Go.Proofs.YtgeaacabpnepmaaGreatDoor
/- Read, List, Writes, Down, Disk of a power. -/
namespace Go.Proofs.YtgeaacabpnepmaaGreatDoor
open Go.RowKit
set_option linter.unusedVariables false
set_option linter.unusedSimpArgs false
set_option maxRecDepth 100000

def Pw.rd (p : Pw) (n : List UInt8) : List UInt8 := if p.off then [] else Go.Proofs.YtgeaacabpnepmaaGreatDoor.rd p.E n
def Pw.rdc (p : Pw) (n : List UInt8) : Nat := if p.off then 8 else eFind p.E n
def Pw.names (p : Pw) : List (List UInt8) := if p.off then [] else p.E.map Ent.nm
theorem pread_c {S : Nat → Prop} {g q : Nat} {dv : Value} {kc : Nat} {ko : Option Addr} {p : Pw} (n : List UInt8) (w : World) (h : PwC S w g dv q ko kc p) (hn : n.length ≤ maxLen) :
    Calls Tryz.prog 178 #[.pointer (some ⟨g, 0, none⟩), .string (str n)] w fun R w' => R = .returned (.tuple #[.string (str (p.rd n)), .int .i64 (p.rdc n : Nat)]) ∧ Below w.heap.size w w' := by
  obtain ⟨gd, rfl⟩ := h.dk.ptr1
  have H := Lib.hid h
  have HN := Lib.hid hn
  have hk := h
  have c0 := hk.c0
  clear h hn hk
  cases hz : p.off
  · have hchk : p.dchk = 0 := by unfold Pw.dchk; rw [hz]; rfl
    have hrd : p.rd n = rd p.E n := by unfold Pw.rd; rw [hz]; rfl
    have hrc : p.rdc n = eFind p.E n := by unfold Pw.rdc; rw [hz]; rfl
    rw [hrd, hrc]
    clear hrd hrc hz
    go_enter Tryz.func178, Tryz.ntmps178
    go_wp2_with fail
    refine (pcheck_c w H.out).mono ?_
    rintro R w1 ⟨rfl, rfl⟩
    rw [hchk]
    go_wp2_with fail
    refine (read_c n w H.out.dk HN.out).mono ?_
    rintro R w1 ⟨rfl, hb⟩
    have HB := Lib.hid hb
    clear hb c0
    go_wp2
    go_ret2
    exact ⟨rfl, HB.out⟩
  · have hchk : p.dchk = 8 := by unfold Pw.dchk; rw [hz]; rfl
    have hrd : p.rd n = [] := by unfold Pw.rd; rw [hz]; rfl
    have hrc : p.rdc n = 8 := by unfold Pw.rdc; rw [hz]; rfl
    rw [hrd, hrc, str_nil]
    clear hrd hrc hz c0
    go_enter Tryz.func178, Tryz.ntmps178
    go_wp2_with fail
    refine (pcheck_c w H.out).mono ?_
    rintro R w1 ⟨rfl, rfl⟩
    rw [hchk]
    go_wp2
    go_ret2
    exact ⟨rfl, Below.refl _ w⟩
theorem plist_c {S : Nat → Prop} {g q : Nat} {dv : Value} {kc : Nat} {ko : Option Addr} {p : Pw} (w : World) (h : PwC S w g dv q ko kc p) :
    Calls Tryz.prog 121 #[.pointer (some ⟨g, 0, none⟩)] w fun R w' => ∃ u, R = .returned u ∧ Lst w' w.heap.size u p.names ∧ Below w.heap.size w w' := by
  obtain ⟨gd, rfl⟩ := h.dk.ptr1
  have H := Lib.hid h
  have hk := h
  have c0 := hk.c0
  clear h hk
  cases hz : p.off
  · have hchk : p.dchk = 0 := by unfold Pw.dchk; rw [hz]; rfl
    have hnm : p.names = p.E.map Ent.nm := by unfold Pw.names; rw [hz]; rfl
    rw [hnm]
    clear hnm hz
    go_enter Tryz.func121, Tryz.ntmps121
    go_wp2_with fail
    refine (pcheck_c w H.out).mono ?_
    rintro R w1 ⟨rfl, rfl⟩
    rw [hchk]
    go_wp2_with fail
    refine (list_s w H.out.dk).mono ?_
    rintro R w1 ⟨u, rfl, hl, hb⟩
    have HL := Lib.hid hl
    have HB := Lib.hid hb
    clear hb c0 hl
    go_wp2
    go_ret
    exact ⟨u, rfl, HL.out, HB.out⟩
  · have hchk : p.dchk = 8 := by unfold Pw.dchk; rw [hz]; rfl
    have hnm : p.names = [] := by unfold Pw.names; rw [hz]; rfl
    rw [hnm]
    clear hnm hz c0
    go_enter Tryz.func121, Tryz.ntmps121
    go_wp2_with fail
    refine (pcheck_c w H.out).mono ?_
    rintro R w1 ⟨rfl, rfl⟩
    rw [hchk]
    go_wp2
    go_ret
    exact ⟨_, rfl, World.ownsRow_nil _ _ _ _, Below.refl _ w⟩
end Go.Proofs.YtgeaacabpnepmaaGreatDoor
