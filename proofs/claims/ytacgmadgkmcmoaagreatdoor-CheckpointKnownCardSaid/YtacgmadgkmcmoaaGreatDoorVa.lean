/- Plain mathematics of digests: a step by a byte is one to one in the number and in the byte; two steps are so in the pair of bytes. Nothing is assumed beyond each fact's own bounds. -/
import Derived.Test.YtacgmadgkmcmoaaGreatDoorProg
import Derived.WalkKit
import Derived.Laws.BitsAllLaws
import Derived.Lib.Hide
namespace Go.Proofs.YtacgmadgkmcmoaaGreatDoor
open Go.RowKit
set_option linter.unusedVariables false

/-- A step of a number by a byte. -/
def dst (d b : Nat) : Nat := (d ^^^ b) * 1099511628211 % 18446744073709551616
/-- Steps by each byte. -/
def djn (d : Nat) : List UInt8 → Nat
  | [] => d
  | c :: l => djn (dst d c.toNat) l
/-- Where digests begin. -/
abbrev bas : Nat := 14695981039346656037
theorem dst_lt (d b : Nat) : dst d b < 18446744073709551616 := Nat.mod_lt _ (by decide)
theorem djn_lt (l : List UInt8) (d : Nat) (h : d < 18446744073709551616) : djn d l < 18446744073709551616 := by
  induction l generalizing d with
  | nil => exact h
  | cons c l ih => exact ih _ (dst_lt _ _)
theorem djn_append (l m : List UInt8) (d : Nat) : djn d (l ++ m) = djn (djn d l) m := by
  induction l generalizing d with
  | nil => rfl
  | cons c l ih => exact ih _
theorem djn_more (l : List UInt8) (d k : Nat) (h : k < l.length) : djn d (l.take (k + 1)) = dst (djn d (l.take k)) (l[k]'h).toNat := by
  rw [List.take_succ_eq_append_getElem h, djn_append]; rfl
end Go.Proofs.YtacgmadgkmcmoaaGreatDoor
