/- Read, List, Writes, Down, Disk of a power. -/
import Derived.Test.YthjhjbiihhpnfaaPh
import Derived.Test.YthjhjbiihhpnfaaDp
namespace Go.Proofs.Ythjhjbiihhpnfaa
open Go.RowKit
set_option linter.unusedVariables false
set_option linter.unusedSimpArgs false
set_option maxRecDepth 100000

def Pw.rd (p : Pw) (n : List UInt8) : List UInt8 := if p.off then [] else Go.Proofs.Ythjhjbiihhpnfaa.rd p.E n
def Pw.rdc (p : Pw) (n : List UInt8) : Nat := if p.off then 8 else eFind p.E n
def Pw.names (p : Pw) : List (List UInt8) := if p.off then [] else p.E.map Ent.nm
theorem pread_c {S : Nat → Prop} {g q : Nat} {dv : Value} {kc : Nat} {ko : Option Addr} {p : Pw} (n : List UInt8) (w : World) (h : PwC S w g dv q ko kc p) (hn : n.length ≤ maxLen) :
    Calls Try.prog 16 #[.pointer (some ⟨g, 0, none⟩), .string (str n)] w fun R w' => R = .returned (.tuple #[.string (str (p.rd n)), .int .i64 (p.rdc n : Nat)]) ∧ Below w.heap.size w w' := by
  obtain ⟨gd, rfl⟩ := h.dk.ptr1
  have H := Lib.hid h
  have HN := Lib.hid hn
  have hk := h
  have c0 := hk.c0
  clear h hn hk
  cases hz : p.off
  · have hchk : p.chk = 0 := by unfold Pw.chk; rw [hz]; rfl
    have hrd : p.rd n = rd p.E n := by unfold Pw.rd; rw [hz]; rfl
    have hrc : p.rdc n = eFind p.E n := by unfold Pw.rdc; rw [hz]; rfl
    rw [hrd, hrc]
    clear hrd hrc hz
    go_enter Try.func16, Try.ntmps16
    go_wp2_with fail
    refine (pcheck_c w H.out).mono ?_
    rintro R w1 ⟨rfl, rfl⟩
    rw [hchk]
    go_wp2_with fail
    refine (read_c n w H.out.dk HN.out).mono ?_
    rintro R w1 ⟨rfl, hb⟩
    have HB := Lib.hid hb
    clear hb c0
    go_wp2
    go_ret2
    exact ⟨rfl, HB.out⟩
  · have hchk : p.chk = 8 := by unfold Pw.chk; rw [hz]; rfl
    have hrd : p.rd n = [] := by unfold Pw.rd; rw [hz]; rfl
    have hrc : p.rdc n = 8 := by unfold Pw.rdc; rw [hz]; rfl
    rw [hrd, hrc, str_nil]
    clear hrd hrc hz c0
    go_enter Try.func16, Try.ntmps16
    go_wp2_with fail
    refine (pcheck_c w H.out).mono ?_
    rintro R w1 ⟨rfl, rfl⟩
    rw [hchk]
    go_wp2
    go_ret2
    exact ⟨rfl, Below.refl _ w⟩
theorem plist_c {S : Nat → Prop} {g q : Nat} {dv : Value} {kc : Nat} {ko : Option Addr} {p : Pw} (w : World) (h : PwC S w g dv q ko kc p) :
    Calls Try.prog 11 #[.pointer (some ⟨g, 0, none⟩)] w fun R w' => ∃ u, R = .returned u ∧ Lst w' w.heap.size u p.names ∧ Below w.heap.size w w' := by
  obtain ⟨gd, rfl⟩ := h.dk.ptr1
  have H := Lib.hid h
  have hk := h
  have c0 := hk.c0
  clear h hk
  cases hz : p.off
  · have hchk : p.chk = 0 := by unfold Pw.chk; rw [hz]; rfl
    have hnm : p.names = p.E.map Ent.nm := by unfold Pw.names; rw [hz]; rfl
    rw [hnm]
    clear hnm hz
    go_enter Try.func11, Try.ntmps11
    go_wp2_with fail
    refine (pcheck_c w H.out).mono ?_
    rintro R w1 ⟨rfl, rfl⟩
    rw [hchk]
    go_wp2_with fail
    refine (list_s w H.out.dk).mono ?_
    rintro R w1 ⟨u, rfl, hl, hb⟩
    have HL := Lib.hid hl
    have HB := Lib.hid hb
    clear hb c0 hl
    go_wp2
    go_ret
    exact ⟨u, rfl, HL.out, HB.out⟩
  · have hchk : p.chk = 8 := by unfold Pw.chk; rw [hz]; rfl
    have hnm : p.names = [] := by unfold Pw.names; rw [hz]; rfl
    rw [hnm]
    clear hnm hz c0
    go_enter Try.func11, Try.ntmps11
    go_wp2_with fail
    refine (pcheck_c w H.out).mono ?_
    rintro R w1 ⟨rfl, rfl⟩
    rw [hchk]
    go_wp2
    go_ret
    exact ⟨_, rfl, World.ownsRow_nil _ _ _ _, Below.refl _ w⟩
theorem pwrites_c {S : Nat → Prop} {g q : Nat} {dv : Value} {kc : Nat} {ko : Option Addr} {p : Pw} (w : World) (h : PwC S w g dv q ko kc p) :
    Calls Try.prog 14 #[.pointer (some ⟨g, 0, none⟩)] w fun R w' => R = .returned (.int .i64 (p.n : Nat)) ∧ w = w' := by
  have H := Lib.hid h
  have hk := h
  have C3 := Lib.hid hk.c3
  have h1 := (chk_ne1 p).2
  clear hk
  go_enter Try.func14, Try.ntmps14
  go_wp2_with fail
  refine (pcheck_c w H.out).mono ?_
  rintro R w1 ⟨rfl, rfl⟩
  go_wp2_with fail
  refine (iload_c ⟨g, 3, none⟩ _ w C3.out).mono ?_
  rintro R w1 ⟨rfl, rfl⟩
  go_wp2
  go_ret
  exact ⟨rfl, rfl⟩
theorem chk_off (p : Pw) : ((p.chk : Int) != 0) = p.off := by unfold Pw.chk; cases p.off <;> decide
theorem pdown_c {S : Nat → Prop} {g q : Nat} {dv : Value} {kc : Nat} {ko : Option Addr} {p : Pw} (w : World) (h : PwC S w g dv q ko kc p) :
    Calls Try.prog 6 #[.pointer (some ⟨g, 0, none⟩)] w fun R w' => R = .returned (.bool p.off) ∧ w = w' := by
  have H := Lib.hid h
  have h1 := chk_off p
  clear h
  go_enter Try.func6, Try.ntmps6
  go_wp2_with fail
  refine (pcheck_c w H.out).mono ?_
  rintro R w1 ⟨rfl, rfl⟩
  go_wp2
  go_ret
  exact ⟨rfl, rfl⟩
theorem pdisk_c {S : Nat → Prop} {g q : Nat} {dv : Value} {kc : Nat} {ko : Option Addr} {p : Pw} (w : World) (h : PwC S w g dv q ko kc p) :
    Calls Try.prog 7 #[.pointer (some ⟨g, 0, none⟩)] w fun R w' => R = .returned dv ∧ w = w' := by
  have H := Lib.hid h
  have hk := h
  have c0 := hk.c0
  have h1 := (chk_ne1 p).2
  clear hk
  go_enter Try.func7, Try.ntmps7
  go_wp2_with fail
  refine (pcheck_c w H.out).mono ?_
  rintro R w1 ⟨rfl, rfl⟩
  go_wp2
  go_ret
  exact ⟨rfl, rfl⟩
end Go.Proofs.Ythjhjbiihhpnfaa
