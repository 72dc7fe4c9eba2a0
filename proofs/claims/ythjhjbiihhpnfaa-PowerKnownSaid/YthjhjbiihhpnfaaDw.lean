/- One act on a disk. -/
import Derived.Test.YthjhjbiihhpnfaaDv
import Derived.Test.YthjhjbiihhpnfaaDj
namespace Go.Proofs.Ythjhjbiihhpnfaa
open Go.RowKit Go.Shelf
set_option linter.unusedVariables false
set_option linter.unusedSimpArgs false
set_option maxRecDepth 100000

/-- An act: what, name, to, bytes, keep. -/
structure Act2 where
  c : Nat
  n : List UInt8
  t : List UInt8
  b : List UInt8
  ko : Option Addr
  ks : List Int
  kc : Nat
def Act2.cs (a : Act2) : Array Value := #[.int .u8 (a.c : Int), .string (str a.n), .string (str a.t), .string (str a.b), .slice a.ko a.ks.length a.kc]
/-- It can be read, and is no longer than may be. -/
structure Act2.ok (w : World) (a : Act2) : Prop where
  c : a.c < 256
  n : a.n.length ≤ maxLen
  t : a.t.length ≤ maxLen
  b : a.b.length ≤ maxLen
  k : a.ks.length ≤ maxLen
  i : Ints w a.ko a.ks
  lo : ∀ x, a.ko = some x → a.ks ≠ [] → x.block < w.heap.size
def actRk (k : Nat) (a : Act2) (q : Nat) (E : List Ent) : Nat :=
  match k with
  | 0 | 1 => eAppend q E a.n a.b
  | 2 => eCreate E a.n
  | 3 => eFind E a.n
  | 4 => eRename E a.n a.t
  | 5 => eFind E a.n
  | _ => 0
def actEk (k : Nat) (a : Act2) (q : Nat) (E : List Ent) : List Ent :=
  match k with
  | 0 | 1 => aAppend q E a.n a.b
  | 2 => aCreate E a.n
  | 3 => aSync E a.n
  | 4 => aRename E a.n a.t
  | 5 => aRemove E a.n
  | 6 => aCrash a.ks E
  | _ => E
def actR (a : Act2) (q : Nat) (E : List Ent) : Nat := actRk (a.c % 8) a q E
def actE (a : Act2) (q : Nat) (E : List Ent) : List Ent := actEk (a.c % 8) a q E
def actN (a : Act2) : Nat := if a.c % 8 < 6 then 1 else 0
end Go.Proofs.Ythjhjbiihhpnfaa
