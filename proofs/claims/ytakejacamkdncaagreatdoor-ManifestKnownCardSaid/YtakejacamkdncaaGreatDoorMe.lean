/- A manifest read from a reader, by the program: its contract. -/
import Derived.Test.YtakejacamkdncaaGreatDoorMd
import Derived.Deep.RegionLaw
namespace Go.Proofs.YtakejacamkdncaaGreatDoor
open Go.RowKit
set_option linter.unusedVariables false
set_option linter.unusedSimpArgs false
set_option maxRecDepth 20000

theorem Loc.re {B : Nat} {w0 w : World} {L : List (Nat × TypeId × Array Value)} (h : Loc B w0 w L) : Loc B w w L := ⟨h.size, Below.refl _ _, h.ge, h.nd, h.cs⟩
theorem Loc.past {B g : Nat} {w0 w w' : World} {L : List (Nat × TypeId × Array Value)} (h : Loc B w0 w L) (k : w.grownBy w' (some g)) (hg : g < B) : Loc B w' w' L :=
  ⟨Nat.le_trans h.size k.size, Below.refl _ _, h.ge, h.nd, fun e he => (h.cs e he).grown k (fun q => by
    have := h.ge e he
    have := Option.some.inj q
    omega)⟩
theorem g_then {w w1 w2 : World} {g : Nat} (h : w.grownBy w1 (some g)) (k : Below w.heap.size w1 w2) : w.grownBy w2 (some g) :=
  ⟨k.os.trans h.os, k.tape.trans h.tape, k.output.trans h.output, Nat.le_trans h.size k.size, fun i hi hn => (k.block i hi).trans (h.block i hi hn)⟩
theorem rd_past {w w' : World} {g b : Nat} {l : List UInt8} {e : Int} (h : Rd w g l e) (k : w.grownBy w' (some b)) (hb : b ≠ g) : Rd w' g l e := ⟨h.1.grown k (fun q => hb (Option.some.inj q).symm), h.2⟩
/-- Between the steps of a reading: the manifest so far in a block, its rows, the reader. -/
structure RS (w : World) (gr : Nat) (m : Mf) (so : Option Addr) (sc : Nat) (co : Option Addr) (cc : Nat) (l : List UInt8) (e : Int) (wr : World) : Prop where
  L : Loc w.heap.size wr wr [(w.heap.size, 34, mcs mz none 0 none 0), (w.heap.size + 1, 34, mcs m so sc co cc)]
  ps : Grw 61 2 w.heap.size wr [w.heap.size, w.heap.size + 1] so m.sg.length sc (Gpl m.sg)
  ns : Grw 30 1 w.heap.size wr [w.heap.size, w.heap.size + 1] co m.ck.length cc (Gnl m.ck)
  rd : Rd wr gr l e
  g : w.grownBy wr (some gr)
  lt : gr < w.heap.size
section
variable {w wr w' : World} {gr sc cc : Nat} {m : Mf} {so co : Option Addr} {l l' : List UInt8} {e e' : Int}
theorem row_past {T : TypeId} {k B : Nat} {bs : List Nat} {ao : Option Addr} {n cap g : Nat} {xs : List Value} (h : Grw T k B wr bs ao n cap xs) (hk : wr.grownBy w' (some g)) (hg : g < B) : Grw T k B w' bs ao n cap xs :=
  h.keep hk (.inr fun e => by have := (h.own.lt g e).1; omega)
theorem RS.call (h : RS w gr m so sc co cc l e wr) (k : RdTo wr gr l' e' w') : RS w gr m so sc co cc l' e' w' :=
  ⟨h.L.past k.2 h.lt, row_past h.ps k.2 h.lt, row_past h.ns k.2 h.lt, k.1, h.g.trans k.2, h.lt⟩
theorem RS.low (h : RS w gr m so sc co cc l e wr) : w.heap.size + 1 < wr.heap.size := h.L.low (e := (w.heap.size + 1, 34, mcs m so sc co cc)) (by simp)
/-- The block has turned. -/
theorem RS.set {m' : Mf} {so' co' : Option Addr} {sc' cc' : Nat} (h : RS w gr m so sc co cc l e wr) (q : wr.grownBy w' (some (w.heap.size + 1)))
    (H : Loc w.heap.size wr w' [(w.heap.size, 34, mcs mz none 0 none 0), (w.heap.size + 1, 34, mcs m' so' sc' co' cc')])
    (hp : Grw 61 2 w.heap.size w' [w.heap.size, w.heap.size + 1] so' m'.sg.length sc' (Gpl m'.sg)) (hn : Grw 30 1 w.heap.size w' [w.heap.size, w.heap.size + 1] co' m'.ck.length cc' (Gnl m'.ck)) :
    RS w gr m' so' sc' co' cc' l e w' :=
  ⟨H.re, hp, hn, rd_past h.rd q (by have := h.lt; omega), g_then h.g H.be, h.lt⟩
theorem RS.ep (h : RS w gr m so sc co cc l e wr) (n : Nat) : ∃ w', (stT 30 (.pointer (some ⟨w.heap.size + 1, 0, none⟩)) (.int .u64 (n : Int))).run Tryz.prog wr = .ok () w' ∧ RS w gr ⟨n, m.pl, m.sg, m.ck⟩ so sc co cc l e w' := by
  obtain ⟨w2, s2, H2, q2⟩ := h.L.stO ty_u64 1 rfl 0 (.int .u64 (n : Int)) (cs' := mcs ⟨n, m.pl, m.sg, m.ck⟩ so sc co cc) rfl (L' := [(w.heap.size, 34, mcs mz none 0 none 0), (w.heap.size + 1, 34, mcs ⟨n, m.pl, m.sg, m.ck⟩ so sc co cc)]) rfl (Nat.le_of_ble_eq_true rfl) rfl rfl
  exact ⟨w2, s2, h.set q2 H2 (h.ps.turn (by simp) q2) (h.ns.turn (by simp) q2)⟩
theorem RS.pl (h : RS w gr m so sc co cc l e wr) (n : Nat) : ∃ w', (stT 5 (.pointer (some ⟨w.heap.size + 1, 1, none⟩)) (.int .u8 (n : Int))).run Tryz.prog wr = .ok () w' ∧ RS w gr ⟨m.ep, n, m.sg, m.ck⟩ so sc co cc l e w' := by
  obtain ⟨w2, s2, H2, q2⟩ := h.L.stO ty_u8 1 rfl 1 (.int .u8 (n : Int)) (cs' := mcs ⟨m.ep, n, m.sg, m.ck⟩ so sc co cc) rfl (L' := [(w.heap.size, 34, mcs mz none 0 none 0), (w.heap.size + 1, 34, mcs ⟨m.ep, n, m.sg, m.ck⟩ so sc co cc)]) rfl (Nat.le_of_ble_eq_true rfl) rfl rfl
  exact ⟨w2, s2, h.set q2 H2 (h.ps.turn (by simp) q2) (h.ns.turn (by simp) q2)⟩
theorem RS.drew (h : RS w gr m so sc co cc l e wr) : RS w gr m so sc co cc l e wr.drew :=
  ⟨h.L.drew.re, h.ps.to (Below.refl _ wr).drew, h.ns.to (Below.refl _ wr).drew, rd_on h.rd (grown_of_below (Below.refl _ wr).drew), g_then h.g ((Below.refl _ wr).drew), h.lt⟩
theorem RS.alloc (h : RS w gr m so sc co cc l e wr) (o : Obj) : RS w gr m so sc co cc l e (wr.alloc o) :=
  have hb := mb_alloc wr o
  ⟨(h.L.to hb).re, h.ps.to hb, h.ns.to hb, rd_on h.rd (grown_of_below hb), g_then h.g (hb.mono h.L.size), h.lt⟩
/-- The row of segments has grown, its slice is stored. -/
theorem RS.part {cap' r' : Nat} (h : RS w gr m so sc co cc l e wr) (p : Nat × Nat) (hr : Grw 61 2 w.heap.size w' [w.heap.size, w.heap.size + 1] (some ⟨r', 0, none⟩) (m.sg.length + 1) cap' (Gpl m.sg ++ gpv p))
    (hL : Loc w.heap.size wr w' [(w.heap.size, 34, mcs mz none 0 none 0), (w.heap.size + 1, 34, mcs m so sc co cc)])
    (hg : (wr.alloc (.cells (gpv p).toArray 61)).grownBy w' (Value.slice so m.sg.length sc).ownBlock) :
    ∃ w2, (stT 31 (.pointer (some ⟨w.heap.size + 1, 2, none⟩)) (.slice (some ⟨r', 0, none⟩) (m.sg.length + 1) cap')).run Tryz.prog w' = .ok () w2 ∧ RS w gr ⟨m.ep, m.pl, m.sg ++ [p], m.ck⟩ (some ⟨r', 0, none⟩) cap' co cc l e w2 := by
  have ha := h.alloc (.cells (gpv p).toArray 61)
  obtain ⟨w2, s2, H2, q2⟩ := hL.re.stO ty_parts 1 rfl 2 (.slice (some ⟨r', 0, none⟩) (m.sg.length + 1) cap') (cs' := mcs ⟨m.ep, m.pl, m.sg ++ [p], m.ck⟩ (some ⟨r', 0, none⟩) cap' co cc) (by simp [mcs]) (L' := [(w.heap.size, 34, mcs mz none 0 none 0), (w.heap.size + 1, 34, mcs ⟨m.ep, m.pl, m.sg ++ [p], m.ck⟩ (some ⟨r', 0, none⟩) cap' co cc)]) rfl (Nat.le_of_ble_eq_true rfl) rfl rfl
  refine ⟨w2, s2, H2.re, ?_, (ha.ns.keep hg ((ha.ns.unlike ha.ps (by decide)))).turn (by simp) q2, ?_, ?_, h.lt⟩
  · have := hr.turn (g := w.heap.size + 1) (by simp) q2
    simpa [Gpl_snoc] using this
  · have h1 : Rd w' gr l e := by
      refine ⟨ha.rd.1.grown hg (fun q => ?_), h.rd.2⟩
      have := (ha.ps.own.lt gr q.symm).1
      have := h.lt
      omega
    exact rd_past h1 q2 (by have := h.lt; omega)
  · exact g_then h.g (hL.be.trans H2.be)
theorem RS.num {cap' r' : Nat} (h : RS w gr m so sc co cc l e wr) (p : Nat) (hr : Grw 30 1 w.heap.size w' [w.heap.size, w.heap.size + 1] (some ⟨r', 0, none⟩) (m.ck.length + 1) cap' (Gnl m.ck ++ gnv p))
    (hL : Loc w.heap.size wr w' [(w.heap.size, 34, mcs mz none 0 none 0), (w.heap.size + 1, 34, mcs m so sc co cc)])
    (hg : (wr.alloc (.cells (gnv p).toArray 30)).grownBy w' (Value.slice co m.ck.length cc).ownBlock) :
    ∃ w2, (stT 32 (.pointer (some ⟨w.heap.size + 1, 3, none⟩)) (.slice (some ⟨r', 0, none⟩) (m.ck.length + 1) cap')).run Tryz.prog w' = .ok () w2 ∧ RS w gr ⟨m.ep, m.pl, m.sg, m.ck ++ [p]⟩ so sc (some ⟨r', 0, none⟩) cap' l e w2 := by
  have ha := h.alloc (.cells (gnv p).toArray 30)
  obtain ⟨w2, s2, H2, q2⟩ := hL.re.stO ty_nums 1 rfl 3 (.slice (some ⟨r', 0, none⟩) (m.ck.length + 1) cap') (cs' := mcs ⟨m.ep, m.pl, m.sg, m.ck ++ [p]⟩ so sc (some ⟨r', 0, none⟩) cap') (by simp [mcs]) (L' := [(w.heap.size, 34, mcs mz none 0 none 0), (w.heap.size + 1, 34, mcs ⟨m.ep, m.pl, m.sg, m.ck ++ [p]⟩ so sc (some ⟨r', 0, none⟩) cap')]) rfl (Nat.le_of_ble_eq_true rfl) rfl rfl
  refine ⟨w2, s2, H2.re, (ha.ps.keep hg ((ha.ps.unlike ha.ns (by decide)))).turn (by simp) q2, ?_, ?_, ?_, h.lt⟩
  · have := hr.turn (g := w.heap.size + 1) (by simp) q2
    simpa [Gnl_snoc] using this
  · have h1 : Rd w' gr l e := by
      refine ⟨ha.rd.1.grown hg (fun q => ?_), h.rd.2⟩
      have := (ha.ns.own.lt gr q.symm).1
      have := h.lt
      omega
    exact rd_past h1 q2 (by have := h.lt; omega)
  · exact g_then h.g (hL.be.trans H2.be)
end
end Go.Proofs.YtakejacamkdncaaGreatDoor
