/- goOff, Blow, lastIsDone; what a power tells. -/
import Derived.Test.YthjhjbiihhpnfaaPe
import Derived.Test.YthjhjbiihhpnfaaDy
namespace Go.Proofs.Ythjhjbiihhpnfaa
open Go.RowKit
set_option linter.unusedVariables false
set_option linter.unusedSimpArgs false
set_option maxRecDepth 100000

set_option maxHeartbeats 1000000 in
/-- '(*sync.Once).Do', not yet done. -/
theorem do_first {S : Nat → Prop} {g q kc b : Nat} {dv : Value} {ko : Option Addr} {p : Pw} (w : World) (h : PwC S w g dv q ko kc p) (ho : p.off = false)
    (hb : w.cell? ⟨b, 0, none⟩ = some (.pointer (some ⟨g, 0, none⟩))) (hgb : b ≠ g) :
    Calls Try.prog 38 #[.pointer (some ⟨g, 5, none⟩), .func (.func 39) #[] #[.pointer (some ⟨b, 0, none⟩)]] w (SlowPost S w g dv q ko kc p) := by
  have hnot : ∀ (x : Bool) (w : World), (Op.unary .not (.bool x)).run Try.prog w = .ok (.bool (!x)) w := fun _ _ => rfl
  have c5 := h.c5
  rw [ho] at c5
  have C5 := Lib.hid c5
  have H := Lib.hid h
  have HO := Lib.hid ho
  clear c5 h ho
  go_enter Try.func38, Try.ntmps38
  go_wp2_with fail
  refine (bload_c ⟨g, 5, none⟩ _ w C5.out).mono ?_
  rintro R w2 ⟨rfl, rfl⟩
  have hb0 : (b01 false != 0) = false := rfl
  rw [hb0]
  go_wp2_with fail
  refine (slow_c w2 H.out HO.out hb hgb).mono ?_
  rintro R w3 ⟨rfl, h3⟩
  go_wp2
  go_end0
  exact ⟨rfl, h3⟩
/-- .. done already: nothing is called. -/
theorem do_done {S : Nat → Prop} {g q kc : Nat} {dv fv : Value} {ko : Option Addr} {p : Pw} (w : World) (h : PwC S w g dv q ko kc p) (ho : p.off = true) :
    Calls Try.prog 38 #[.pointer (some ⟨g, 5, none⟩), fv] w fun R w' => R = .returned (.tuple #[]) ∧ w = w' := by
  have hnot : ∀ (x : Bool) (w : World), (Op.unary .not (.bool x)).run Try.prog w = .ok (.bool (!x)) w := fun _ _ => rfl
  have c5 := h.c5
  rw [ho] at c5
  have C5 := Lib.hid c5
  clear c5 h ho
  go_enter Try.func38, Try.ntmps38
  go_wp2_with fail
  refine (bload_c ⟨g, 5, none⟩ _ w C5.out).mono ?_
  rintro R w2 ⟨rfl, rfl⟩
  have hb0 : (b01 true != 0) = true := rfl
  rw [hb0]
  go_wp2
  go_end0
  exact ⟨rfl, rfl⟩
theorem blow_on {p : Pw} (h : p.off = false) : p.blow = { p with off := true, E := aCrash p.ks p.E } := by unfold Pw.blow; rw [h]; rfl
theorem blow_off {p : Pw} (h : p.off = true) : p.blow = p := by unfold Pw.blow; rw [h]; rfl
theorem goOff_c {S : Nat → Prop} {g q : Nat} {dv : Value} {kc : Nat} {ko : Option Addr} {p : Pw} (w : World) (h : PwC S w g dv q ko kc p) :
    Calls Try.prog 28 #[.pointer (some ⟨g, 0, none⟩)] w fun R w' => R = .returned (.tuple #[]) ∧ PwC S w' g dv q ko kc p.blow ∧ Tu (fun x => x = g ∨ S x) w w' := by
  have hmf : ∀ (fn : Fn) (first cap : Array Value) (w : World), (Instr.makeFunc fn first cap).run Try.prog w = .ok (.func fn first cap) w := fun _ _ _ _ => rfl
  have hlt := h.lt
  have ha := below_alloc w (.cells #[.pointer (some ⟨g, 0, none⟩)] 24)
  have hb : (w.alloc (.cells #[.pointer (some ⟨g, 0, none⟩)] 24)).cell? ⟨w.heap.size, 0, none⟩ = some (.pointer (some ⟨g, 0, none⟩)) := (Cells.made w _ _).cell 0
  have HW := Lib.hid ha
  have HB := Lib.hid hb
  have H1 := Lib.hid (h.new ha)
  have hne : w.heap.size ≠ g := by omega
  clear h ha hb hlt
  cases hz : p.off
  · rw [blow_on hz]
    have HZ := Lib.hid hz
    clear hz
    go_enter Try.func28, Try.ntmps28
    go_wp2_with fail
    refine (do_first _ H1.out HZ.out HB.out hne).mono ?_
    rintro R w3 ⟨rfl, h3, t3⟩
    have H3 := Lib.hid h3
    have T3 := Lib.hid t3
    clear h3 t3
    go_wp2
    go_end0
    exact ⟨rfl, H3.out, (Tu.new HW.out).trans T3.out (fun _ _ h => h)⟩
  · rw [blow_off hz]
    have HZ := Lib.hid hz
    clear hz
    go_enter Try.func28, Try.ntmps28
    go_wp2_with fail
    refine (do_done _ H1.out HZ.out).mono ?_
    rintro R w3 ⟨rfl, rfl⟩
    go_wp2
    go_end0
    exact ⟨rfl, H1.out, Tu.new HW.out⟩
theorem chk_ne1 (p : Pw) : ((p.chk : Int) != 1) = true ∧ ((p.chk : Int) == 1) = false := by unfold Pw.chk; cases p.off <;> decide
theorem blow_c {S : Nat → Prop} {g q : Nat} {dv : Value} {kc : Nat} {ko : Option Addr} {p : Pw} (w : World) (h : PwC S w g dv q ko kc p) :
    Calls Try.prog 12 #[.pointer (some ⟨g, 0, none⟩)] w fun R w' => R = .returned (.tuple #[]) ∧ PwC S w' g dv q ko kc p.blow ∧ Tu (fun x => x = g ∨ S x) w w' := by
  have H := Lib.hid h
  have h1 := (chk_ne1 p).1
  clear h
  go_enter Try.func12, Try.ntmps12
  go_wp2_with fail
  refine (pcheck_c w H.out).mono ?_
  rintro R w1 ⟨rfl, rfl⟩
  go_wp2_with fail
  refine (goOff_c w H.out).mono ?_
  rintro R w1 ⟨rfl, h1, h2⟩
  have H1 := Lib.hid h1
  have H2 := Lib.hid h2
  clear h1 h2
  go_wp2
  go_end0
  exact ⟨rfl, H1.out, H2.out⟩
theorem done_c {S : Nat → Prop} {g q : Nat} {dv : Value} {kc : Nat} {ko : Option Addr} {p : Pw} (w : World) (h : PwC S w g dv q ko kc p) :
    Calls Try.prog 33 #[.pointer (some ⟨g, 0, none⟩)] w fun R w' => R = .returned (.bool (oddK p.ks)) ∧ w = w' := by
  have c2 := h.c2
  have hi := h.ks
  have hk := h.kl
  clear h
  generalize p.ks = ks at *
  rcases ks with _ | ⟨k, r⟩
  · clear hi hk
    show Calls _ _ _ _ fun R w' => R = .returned (.bool false) ∧ w = w'
    go_enter Try.func33, Try.ntmps33
    go_wp2
    go_ret
    exact ⟨rfl, rfl⟩
  · obtain ⟨b, o, rfl, hc, h1, h2⟩ := hi 0 (by simp)
    rw [Nat.add_zero] at hc
    have hc : w.cell? ⟨b, o, none⟩ = some (.int .i64 k) := hc
    have h1 : -9223372036854775808 ≤ k := h1
    have h2 : k ≤ 9223372036854775807 := h2
    clear hi
    rw [List.length_cons] at hk c2
    obtain ⟨n, hn⟩ : ∃ n, r.length + 1 = n := ⟨_, rfl⟩
    rw [hn] at hk c2
    have hn0 : (0 : Int) < (n : Int) := by omega
    clear hn
    have hm : IntKind.i64.wrap (k.tmod 2) = k.tmod 2 := by
      have h3 := Int.natAbs_tmod k 2
      have h4 : k.natAbs % (2 : Int).natAbs < 2 := Nat.mod_lt _ (by decide)
      exact IntWalk.i64_in _ (by omega)
    show Calls _ _ _ _ fun R w' => R = .returned (.bool (k.tmod 2 != 0)) ∧ w = w'
    go_enter Try.func33, Try.ntmps33
    go_wp2
    go_ret
    exact ⟨rfl, rfl⟩
end Go.Proofs.Ythjhjbiihhpnfaa
