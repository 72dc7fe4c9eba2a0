/- The statements' items of layer 2: written, read, and by the document: one contract each. -/
import Derived.Test.YtdjiklokmiaieaaSm
namespace Go.Proofs.Ytdjiklokmiaieaa
open Go.RowKit
set_option linter.unusedVariables false

/-- An item: its kind, its number, its text. -/
structure Itm where
  k : Nat
  n : Nat
  s : List UInt8
def Itm.ok (x : Itm) : Prop := x.k < 256 ∧ x.n < 18446744073709551616 ∧ x.s.length ≤ 1099511620000
def Itm.val (x : Itm) : Value := .agg #[.int .u8 x.k, .int .u64 x.n, .string (str x.s)]
/-- Its bytes. -/
def enc (x : Itm) : List UInt8 :=
  if x.k % 7 = 0 then le 1 x.n else if x.k % 7 = 1 then le 2 x.n else if x.k % 7 = 2 then le 4 x.n else if x.k % 7 = 3 then le 8 x.n
  else if x.k % 7 = 4 then le 4 x.n else if x.k % 7 = 5 then vr x.n else tx x.s
theorem le_mod : ∀ (k n : Nat), le k (n % 256 ^ k) = le k n
  | 0, n => rfl
  | k + 1, n => by
    have h1 : n % 256 ^ (k + 1) % 256 = n % 256 := Nat.mod_mod_of_dvd n ⟨256 ^ k, by rw [Nat.pow_succ, Nat.mul_comm]⟩
    have h2 : n % 256 ^ (k + 1) / 256 = n / 256 % 256 ^ k := by
      rw [Nat.pow_succ, Nat.mul_comm, Nat.mod_mul_right_div_self]
    rw [le, le, h1, h2, le_mod k]
theorem rem7 (k : Nat) : k % 7 = 0 ∨ k % 7 = 1 ∨ k % 7 = 2 ∨ k % 7 = 3 ∨ k % 7 = 4 ∨ k % 7 = 5 ∨ k % 7 = 6 := by omega
theorem i32_u32 (n : Nat) : IntKind.u32.wrap (wrap32 (n : Int)) = ((n % 4294967296 : Nat) : Int) := by
  simp [IntKind.wrap, IntKind.bits, IntKind.signed, wrap32]
theorem wrTo_alloc {w w' : World} {g : Nat} {bs : List UInt8} {o : Obj} (h : WrTo (w.alloc o) g bs w') (hg : g ≤ w.heap.size) : WrTo w g bs w' :=
  ⟨h.1, ((Below.refl g w).alloc hg o).trans h.2⟩
theorem wr_alloc {w : World} {g : Nat} {bs : List UInt8} (h : Wr w g bs) (o : Obj) : Wr (w.alloc o) g bs := wr_on0 h ⟨rfl, rfl, rfl, by simp, fun k hk _ => Below.heap_alloc _ _ _ hk⟩

set_option maxHeartbeats 4000000 in
set_option maxRecDepth 20000 in
theorem put_c (x : Itm) (g : Nat) (bs : List UInt8) (w : World) (hx : x.ok) (h : Wr w g bs) (hl : bs.length + x.s.length ≤ 1099511627700) :
    Calls Try.prog 10 #[.pointer (some ⟨g, 0, none⟩), x.val] w fun E w' => E = .returned (.tuple #[]) ∧ WrTo w g (bs ++ enc x) w' := by
  obtain ⟨hx1, hx2, hx3⟩ := hx
  have HN := Lib.hid hx2
  have HL := Lib.hid (show bs.length ≤ 1099511627776 from by omega)
  have HL2 := Lib.hid (show bs.length ≤ 1099511627700 from by omega)
  have HL3 := Lib.hid hl
  have HG := Lib.hid (wr_lt h)
  clear hx2 hl
  have hw := wr_alloc h (.cells #[.int .u8 x.k, .int .u64 x.n, .string (str x.s)] 32)
  unfold Itm.val
  rcases rem7 x.k with h7 | h7 | h7 | h7 | h7 | h7 | h7
  · have hk : ((x.k : Int) % 7) = 0 := by omega
    have HE := Lib.hid (show enc x = le 1 x.n from by unfold enc; simp [h7])
    clear h7
    go_enter Try.func10, Try.ntmps10
    go_wp2_with fail
    refine (wrU8 g (x.n % 256) bs _ hw HL.out (Nat.mod_lt _ (by decide))).mono ?_
    rintro E w1 ⟨rfl, hr⟩
    rw [show le 1 (x.n % 256) = le 1 x.n from le_mod 1 x.n] at hr
    go_wp2
    go_end0
    exact ⟨rfl, by rw [HE.out]; exact wrTo_alloc hr (Nat.le_of_lt HG.out)⟩
  · have hk : ((x.k : Int) % 7) = 1 := by omega
    have HE := Lib.hid (show enc x = le 2 x.n from by unfold enc; simp [h7])
    clear h7
    go_enter Try.func10, Try.ntmps10
    go_wp2_with fail
    refine (wrU16 g (x.n % 65536) bs _ hw HL.out (Nat.mod_lt _ (by decide))).mono ?_
    rintro E w1 ⟨rfl, hr⟩
    rw [show le 2 (x.n % 65536) = le 2 x.n from le_mod 2 x.n] at hr
    go_wp2
    go_end0
    exact ⟨rfl, by rw [HE.out]; exact wrTo_alloc hr (Nat.le_of_lt HG.out)⟩
  · have hk : ((x.k : Int) % 7) = 2 := by omega
    have HE := Lib.hid (show enc x = le 4 x.n from by unfold enc; simp [h7])
    clear h7
    go_enter Try.func10, Try.ntmps10
    go_wp2_with fail
    refine (wrU32 g (x.n % 4294967296) bs _ hw HL.out (Nat.mod_lt _ (by decide))).mono ?_
    rintro E w1 ⟨rfl, hr⟩
    rw [show le 4 (x.n % 4294967296) = le 4 x.n from le_mod 4 x.n] at hr
    go_wp2
    go_end0
    exact ⟨rfl, by rw [HE.out]; exact wrTo_alloc hr (Nat.le_of_lt HG.out)⟩
  · have hk : ((x.k : Int) % 7) = 3 := by omega
    have HE := Lib.hid (show enc x = le 8 x.n from by unfold enc; simp [h7])
    clear h7
    go_enter Try.func10, Try.ntmps10
    go_wp2_with fail
    refine (wrU64 g x.n bs _ hw HL.out HN.out).mono ?_
    rintro E w1 ⟨rfl, hr⟩
    skip
    go_wp2
    go_end0
    exact ⟨rfl, by rw [HE.out]; exact wrTo_alloc hr (Nat.le_of_lt HG.out)⟩
  · have hk : ((x.k : Int) % 7) = 4 := by omega
    have HE := Lib.hid (show enc x = le 4 x.n from by unfold enc; simp [h7])
    clear h7
    go_enter Try.func10, Try.ntmps10
    go_wp2_with fail
    refine (wrI32 g (x.n % 4294967296) _ bs _ hw HL.out (Nat.mod_lt _ (by decide)) (i32_u32 x.n)).mono ?_
    rintro E w1 ⟨rfl, hr⟩
    rw [show le 4 (x.n % 4294967296) = le 4 x.n from le_mod 4 x.n] at hr
    go_wp2
    go_end0
    exact ⟨rfl, by rw [HE.out]; exact wrTo_alloc hr (Nat.le_of_lt HG.out)⟩
  · have hk : ((x.k : Int) % 7) = 5 := by omega
    have HE := Lib.hid (show enc x = vr x.n from by unfold enc; simp [h7])
    clear h7
    go_enter Try.func10, Try.ntmps10
    go_wp2_with fail
    refine (wrVar g x.n bs _ hw HL2.out HN.out).mono ?_
    rintro E w1 ⟨rfl, hr⟩
    skip
    go_wp2
    go_end0
    exact ⟨rfl, by rw [HE.out]; exact wrTo_alloc hr (Nat.le_of_lt HG.out)⟩
  · have hk : ((x.k : Int) % 7) = 6 := by omega
    have HE := Lib.hid (show enc x = tx x.s from by unfold enc; simp [h7])
    clear h7
    go_enter Try.func10, Try.ntmps10
    go_wp2_with fail
    refine (wrText g x.s bs _ hw HL3.out).mono ?_
    rintro E w1 ⟨rfl, hr⟩
    skip
    go_wp2
    go_end0
    exact ⟨rfl, by rw [HE.out]; exact wrTo_alloc hr (Nat.le_of_lt HG.out)⟩

theorem grown_alloc {w w' : World} {o : Obj} {r : Option Nat} (h : (w.alloc o).grownBy w' r) : w.grownBy w' r :=
  ⟨h.os, h.tape, h.output, by have := h.size; simp at this; omega, fun k hk hr => (h.block k (by simp; omega) hr).trans (Below.heap_alloc _ _ _ hk)⟩
set_option maxHeartbeats 4000000 in
theorem bytes_c (x : Itm) (w : World) (hx : x.ok) :
    Calls Try.prog 11 #[x.val] w fun E w' => E = .returned (.string (str (enc x))) ∧ w.grownBy w' none := by
  obtain ⟨hx1, hx2, hx3⟩ := hx
  have HN := Lib.hid hx2
  have HS := Lib.hid (show x.s.length ≤ 1099511627776 from by omega)
  clear hx2
  unfold Itm.val
  rcases rem7 x.k with h7 | h7 | h7 | h7 | h7 | h7 | h7
  · have hk : ((x.k : Int) % 7) = 0 := by omega
    have HE := Lib.hid (show enc x = le 1 x.n from by unfold enc; simp [h7])
    clear h7
    go_enter Try.func11, Try.ntmps11
    go_wp2_with fail
    refine (refNumber x.n 1 _ HN.out (by omega)).mono ?_
    rintro E w1 ⟨rfl, hr⟩
    go_wp2
    go_ret
    exact ⟨by rw [HE.out]; rfl, grown_alloc hr⟩
  · have hk : ((x.k : Int) % 7) = 1 := by omega
    have HE := Lib.hid (show enc x = le 2 x.n from by unfold enc; simp [h7])
    clear h7
    go_enter Try.func11, Try.ntmps11
    go_wp2_with fail
    refine (refNumber x.n 2 _ HN.out (by omega)).mono ?_
    rintro E w1 ⟨rfl, hr⟩
    go_wp2
    go_ret
    exact ⟨by rw [HE.out]; rfl, grown_alloc hr⟩
  · have hk : ((x.k : Int) % 7) = 2 := by omega
    have HE := Lib.hid (show enc x = le 4 x.n from by unfold enc; simp [h7])
    clear h7
    go_enter Try.func11, Try.ntmps11
    go_wp2_with fail
    refine (refNumber x.n 4 _ HN.out (by omega)).mono ?_
    rintro E w1 ⟨rfl, hr⟩
    go_wp2
    go_ret
    exact ⟨by rw [HE.out]; rfl, grown_alloc hr⟩
  · have hk : ((x.k : Int) % 7) = 3 := by omega
    have HE := Lib.hid (show enc x = le 8 x.n from by unfold enc; simp [h7])
    clear h7
    go_enter Try.func11, Try.ntmps11
    go_wp2_with fail
    refine (refNumber x.n 8 _ HN.out (by omega)).mono ?_
    rintro E w1 ⟨rfl, hr⟩
    go_wp2
    go_ret
    exact ⟨by rw [HE.out]; rfl, grown_alloc hr⟩
  · have hk : ((x.k : Int) % 7) = 4 := by omega
    have HE := Lib.hid (show enc x = le 4 x.n from by unfold enc; simp [h7])
    clear h7
    go_enter Try.func11, Try.ntmps11
    go_wp2_with fail
    refine (refNumber x.n 4 _ HN.out (by omega)).mono ?_
    rintro E w1 ⟨rfl, hr⟩
    go_wp2
    go_ret
    exact ⟨by rw [HE.out]; rfl, grown_alloc hr⟩
  · have hk : ((x.k : Int) % 7) = 5 := by omega
    have HE := Lib.hid (show enc x = vr x.n from by unfold enc; simp [h7])
    clear h7
    go_enter Try.func11, Try.ntmps11
    go_wp2_with fail
    refine (refVar x.n _ HN.out).mono ?_
    rintro E w1 ⟨rfl, hr⟩
    go_wp2
    go_ret
    exact ⟨by rw [HE.out]; rfl, grown_alloc hr⟩
  · have hk : ((x.k : Int) % 7) = 6 := by omega
    have HE := Lib.hid (show enc x = tx x.s from by unfold enc; simp [h7])
    clear h7
    go_enter Try.func11, Try.ntmps11
    go_wp2_with fail
    refine (refText x.s _ HS.out).mono ?_
    rintro E w1 ⟨rfl, hr⟩
    go_wp2
    go_ret
    exact ⟨by rw [HE.out]; rfl, grown_alloc hr⟩
end Go.Proofs.Ytdjiklokmiaieaa
