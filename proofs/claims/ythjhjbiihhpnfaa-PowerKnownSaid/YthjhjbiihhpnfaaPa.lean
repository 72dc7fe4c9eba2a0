/- A power in plain words: what it has, and what becomes of it. -/
import Derived.Test.YthjhjbiihhpnfaaDb
namespace Go.Proofs.Ythjhjbiihhpnfaa
set_option linter.unusedVariables false

/-- A power: its fuse, the numbers to keep, how many writes were made, whether it is off, the disk's files. -/
structure Pw where
  fu : Int
  ks : List Int
  n : Nat
  off : Bool
  E : List Ent
def oddK (ks : List Int) : Bool := match ks with | [] => false | k :: _ => k.tmod 2 != 0
/-- Behind a write that would leave the files E'. -/
def Pw.after (p : Pw) (E' : List Ent) : Pw :=
  if p.off then p else if (p.n : Int) = p.fu then { p with n := p.n + 1, off := true, E := aCrash p.ks (if oddK p.ks then E' else p.E) } else { p with n := p.n + 1, E := E' }
def Pw.code (p : Pw) (r : Nat) : Nat := if p.off then 8 else if (p.n : Int) = p.fu then 8 else r
def Pw.blow (p : Pw) : Pw := if p.off then p else { p with off := true, E := aCrash p.ks p.E }
/-- A write: 0 Create, 1 Append, 2 Sync, 3 Rename, else Remove. -/
def wrR (k q : Nat) (E : List Ent) (n t : List UInt8) : Nat :=
  match k with
  | 0 => eCreate E n
  | 1 => eAppend q E n t
  | 2 => eFind E n
  | 3 => eRename E n t
  | _ => eFind E n
def wrE (k q : Nat) (E : List Ent) (n t : List UInt8) : List Ent :=
  match k with
  | 0 => aCreate E n
  | 1 => aAppend q E n t
  | 2 => aSync E n
  | 3 => aRename E n t
  | _ => aRemove E n
/-- Behind a write of that kind. -/
def Pw.wr (k q : Nat) (n t : List UInt8) (p : Pw) : Pw := p.after (wrE k q p.E n t)
def Pw.wrc (k q : Nat) (n t : List UInt8) (p : Pw) : Nat := p.code (wrR k q p.E n t)
end Go.Proofs.Ythjhjbiihhpnfaa
