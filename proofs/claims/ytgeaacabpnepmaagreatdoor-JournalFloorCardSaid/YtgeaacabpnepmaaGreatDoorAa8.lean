/- Texts of the walk. -/
import Derived.WalkKit
import Derived.ProofKit
import Derived.OpenShut
import Derived.Handy
import Derived.Lib.Hide
import Derived.Lib.AppendStr
import Derived.Lib.ConvBytes
import Derived.Laws.OwnMore
import Derived.Laws.IdiomStrings
import Derived.Deep.AppendLies
import Derived.Deep.Draws
import Derived.Laws.BitsAllLaws
import Derived.Test.YtgeaacabpnepmaaGreatDoorRows
import Derived.BigQuiet
import Derived.Deep.LoopGhost
import Derived.Deep.RegionLaw
import Derived.Lib.BufferRead
import Derived.Deep.QuietTactic
/- Texts of elder layers, one behind the other. -/
/- Words on memory: strings as lists of bytes, a block that is known whole, what a step may turn. Nothing of the program. -/
namespace Go.Proofs.YtgeaacabpnepmaaGreatDoor
open Go.RowKit
set_option linter.unusedVariables false

def str (l : List UInt8) : ByteArray := ⟨l.toArray⟩
theorem str_size (l : List UInt8) : (str l).size = l.length := by simp [str, ByteArray.size]
theorem str_nil : str [] = ⟨#[]⟩ := rfl
theorem str_data (l : List UInt8) : (str l).data.toList = l := by simp [str]
theorem str_of (s : ByteArray) : s = str s.data.toList := by cases s; simp [str]
theorem str_extract (l : List UInt8) (a b : Nat) : (str l).extract a b = str ((l.take b).drop a) := by
  rw [str_of ((str l).extract a b)]
  congr 1
  simp [str, ByteArray.data_extract, List.drop_take]
theorem str_cut (l : List UInt8) (n : Nat) : (str l).extract 0 n = str (l.take n) := by rw [str_extract]; rfl
theorem str_rest (l : List UInt8) (n : Nat) : (str l).extract n l.length = str (l.drop n) := by rw [str_extract, List.take_length]
theorem str_append (a b : List UInt8) : str a ++ str b = str (a ++ b) := by
  rw [str_of (str a ++ str b)]; simp [str]

def bv (b : UInt8) : Value := .int .u8 b.toNat
def bvs (l : List UInt8) : List Value := l.map bv
theorem bvs_length (l : List UInt8) : (bvs l).length = l.length := by simp [bvs]
theorem bvs_append (a b : List UInt8) : bvs (a ++ b) = bvs a ++ bvs b := by simp [bvs]
theorem bvs_str (l : List UInt8) : Lib.strCells (str l) = bvs l := by simp [Lib.strCells, bvs, bv, str]

def Cells (w : World) (g : Nat) (t : TypeId) (cs : Array Value) : Prop := w.heap[g]? = some (.cells cs t (0, 0))

section
variable {w w' : World} {g : Nat} {t : TypeId} {cs : Array Value}
theorem Cells.lt (h : Cells w g t cs) : g < w.heap.size := by
  unfold Cells at h
  exact (Array.getElem?_eq_some_iff.1 h).1
theorem Cells.cell (h : Cells w g t cs) (i : Nat) : w.cell? ⟨g, i, none⟩ = cs[i]? := cell_of_row w g i cs t (0, 0) h
theorem Cells.frozen (h : Cells w g t cs) (i : Nat) : w.frozen? ⟨g, i, none⟩ = false := by
  unfold Cells at h
  simp [World.frozen?, h]
theorem Cells.made (w : World) (t : TypeId) (cs : Array Value) : Cells (w.alloc (.cells cs t)) w.heap.size t cs := heap_alloc_new w _
theorem Cells.alloc (h : Cells w g t cs) (o : Obj) : Cells (w.alloc o) g t cs := (Below.heap_alloc w o g h.lt).trans h
theorem Cells.drew (h : Cells w g t cs) : Cells w.drew g t cs := h
theorem Cells.set (h : Cells w g t cs) (i : Nat) (u : Value) : Cells (w.setCell ⟨g, i, none⟩ u) g t (cs.setIfInBounds i u) := by
  unfold Cells at h ⊢
  simp [World.setCell, Array.getElem?_modify, h]
theorem Cells.far (h : Cells w g t cs) {p : Addr} (hp : g ≠ p.block) (u : Value) : Cells (w.setCell p u) g t cs := (Below.heap_setCell w p u g hp).trans h
theorem Cells.below {B : Nat} (h : Cells w g t cs) (hb : Below B w w') (hg : g < B) : Cells w' g t cs := (hb.block g hg).trans h
theorem Cells.grown {row : Option Nat} (h : Cells w g t cs) (hb : w.grownBy w' row) (hg : some g ≠ row) : Cells w' g t cs := (hb.block g h.lt hg).trans h
theorem Cells.unlike {g' : Nat} {t' : TypeId} {cs' : Array Value} (h : Cells w g t cs) (h' : Cells w g' t' cs') (hne : t ≠ t') : g ≠ g' := by
  rintro rfl
  unfold Cells at h h'
  rw [h] at h'
  simp at h'
  exact hne h'.2
theorem row_unlike {base : Nat} {e : TypeId} {size n : Nat} {v : Value} {xs : List Value} (h : w.ownsRow base e size v n xs) (hg : Cells w g t cs) (hne : e ≠ t) : v.ownBlock ≠ some g := by
  rcases h.2 with ⟨rfl, _⟩ | ⟨g', cap, cur, rfl, _, hh, _⟩
  · simp [Value.ownBlock]
  · intro he
    have : g' = g := by simpa [Value.ownBlock] using he
    subst this
    exact Cells.unlike (t := e) hh hg hne rfl
end

theorem grown_refl (w : World) (r : Option Nat) : w.grownBy w r := World.grownBy.refl w r
theorem grown_set (w : World) (g i : Nat) (u : Value) : w.grownBy (w.setCell ⟨g, i, none⟩ u) (some g) :=
  ⟨rfl, rfl, rfl, by simp [World.setCell], fun k _ hk => Below.heap_setCell w _ u k (fun e => hk (by rw [e]))⟩
theorem grown_bytes (w : World) (e : TypeId) (s : ByteArray) (r : Option Nat) : w.grownBy (Lib.bytesWorld w e s) r :=
  ⟨rfl, rfl, rfl, by rw [Lib.bytesWorld_size]; omega, fun k hk _ => Lib.bytesWorld_at_old w e s k hk⟩
theorem grown_nb {w w' : World} {B : Nat} {r : Option Nat} (h : w.grownBy w' r) (hr : ∀ k, r = some k → B ≤ k) (hB : B ≤ w.heap.size) : Below B w w' :=
  (Below.refl B w).grown h hB hr
end Go.Proofs.YtgeaacabpnepmaaGreatDoor
/- Numbers and strings as bytes: the plain mathematics of layer 2. Nothing of the program. -/
namespace Go.Proofs.YtgeaacabpnepmaaGreatDoor
open Go.RowKit
set_option linter.unusedVariables false

def le : Nat → Nat → List UInt8
  | 0, _ => []
  | k + 1, n => UInt8.ofNat (n % 256) :: le k (n / 256)
def un : List UInt8 → Nat
  | [] => 0
  | b :: r => b.toNat + 256 * un r
structure Got (α : Type) where
  err : Int
  val : α
  rest : List UInt8
def tk (n : Nat) (l : List UInt8) : Got (List UInt8) := if n ≤ l.length then ⟨0, l.take n, l.drop n⟩ else ⟨10, [], []⟩
def num (k : Nat) (l : List UInt8) : Got Nat := if k ≤ l.length then ⟨0, un (l.take k), l.drop k⟩ else ⟨10, 0, []⟩
def fin (e c : Int) : Int := if e = 0 then c else e

theorem fin_zero (e : Int) : fin e 0 = e := by unfold fin; split <;> omega
theorem fin_fin (e c d : Int) : fin (fin e c) d = fin e (fin c d) := by unfold fin; (repeat' split) <;> omega
theorem fin_of (c : Int) : fin 0 c = c := by simp [fin]

theorem num_err {n : Nat} {l : List UInt8} (h : (num n l).err ≠ 0) : (num n l).rest = [] ∧ (num n l).val = 0 := by
  unfold num at h ⊢; split <;> simp_all
theorem num_len (n : Nat) (l : List UInt8) : (num n l).rest.length ≤ l.length := by
  unfold num; split <;> simp
theorem un_lt : ∀ (l : List UInt8), un l < 256 ^ l.length
  | [] => by simp [un]
  | b :: r => by
    have := un_lt r
    have hb := b.toNat_lt
    simp only [un, List.length_cons, Nat.pow_succ]
    omega
theorem un_append : ∀ (a b : List UInt8), un (a ++ b) = un a + 256 ^ a.length * un b
  | [], b => by simp [un]
  | x :: a, b => by
    simp only [List.cons_append, un, un_append a b, List.length_cons, Nat.pow_succ]
    rw [Nat.mul_add, Nat.mul_comm (256 ^ a.length) 256, Nat.mul_assoc]
    omega
theorem un_le : ∀ (k n : Nat), un (le k n) = n % 256 ^ k
  | 0, n => by simp [un, le, Nat.mod_one]
  | k + 1, n => by
    have h : (UInt8.ofNat (n % 256)).toNat = n % 256 := by simp
    simp only [le, un, un_le k, h, Nat.pow_succ]
    rw [Nat.mul_comm (256 ^ k) 256, Nat.mod_mul]
theorem le_length : ∀ (k n : Nat), (le k n).length = k
  | 0, _ => rfl
  | k + 1, n => by simp [le, le_length k]
theorem le_un : ∀ (l : List UInt8), le l.length (un l) = l
  | [] => rfl
  | b :: r => by
    have hb := b.toNat_lt
    simp only [List.length_cons, le, un]
    rw [show (b.toNat + 256 * un r) / 256 = un r from by omega, le_un r, show (b.toNat + 256 * un r) % 256 = b.toNat from by omega]
    simp
theorem u64_id (n : Int) (h : 0 ≤ n) (h2 : n < 18446744073709551616) : IntKind.u64.wrap n = n := by
  simp [IntKind.wrap, IntKind.bits, IntKind.signed]; omega
theorem or_sh (a b s : Nat) (hs64 : s < 64) (ha : a < 2 ^ s) (hb : b * 2 ^ s < 18446744073709551616) : bits .or .u64 (a : Int) (IntKind.u64.wrap (IntKind.u64.wrap (b : Int) * 2 ^ s)) = ((a + 2 ^ s * b : Nat) : Int) := by
  have hp : 0 < 2 ^ s := Nat.two_pow_pos s
  have hb1 : b ≤ b * 2 ^ s := Nat.le_mul_of_pos_right b hp
  have hs : 2 ^ s ≤ 2 ^ 63 := Nat.pow_le_pow_right (by omega) (by omega)
  have e1 : IntKind.u64.wrap (b : Int) = b := u64_id _ (by omega) (by omega)
  have e2 : ((b : Int) * 2 ^ s) = ((b * 2 ^ s : Nat) : Int) := by push_cast; rfl
  rw [e1, e2, u64_id _ (by omega) (by omega)]
  rw [u64_or_nat _ _ (by omega) hb, Nat.or_comm, nat_join s _ _ (Nat.mul_mod_left _ _) ha, Nat.mul_comm b]
  congr 1
  omega
theorem un_step (x : List UInt8) (k : Nat) (hk : k < x.length) (h8 : x.length ≤ 8) :
    bits .or .u64 (un (x.take k) : Int) (IntKind.u64.wrap (IntKind.u64.wrap ((x[k]'hk).toNat : Int) * 2 ^ (8 * k))) = (un (x.take (k + 1)) : Int) := by
  have h1 := un_lt (x.take k)
  have hb := (x[k]'hk).toNat_lt
  have hp : 256 ^ k = 2 ^ (8 * k) := by rw [show (256 : Nat) = 2 ^ 8 from rfl, ← Nat.pow_mul]
  have hp2 : 2 ^ (8 * k) ≤ 2 ^ 56 := Nat.pow_le_pow_right (by omega) (by omega)
  rw [List.length_take, Nat.min_eq_left (by omega), hp] at h1
  rw [or_sh _ _ _ (by omega) h1 (Nat.lt_of_le_of_lt (Nat.mul_le_mul (Nat.le_of_lt_succ hb) hp2) (by decide))]
  congr 1
  rw [List.take_succ_eq_append_getElem hk, un_append, List.length_take, Nat.min_eq_left (by omega), hp]
  simp [un]
theorem un_take_lt (x : List UInt8) (k : Nat) : un (x.take k) < 256 ^ x.length := by
  refine Nat.lt_of_lt_of_le (un_lt _) (Nat.pow_le_pow_right (by omega) ?_)
  rw [List.length_take]; omega
end Go.Proofs.YtgeaacabpnepmaaGreatDoor
/- The functions of package codec that read, as the walk of the program's text gives them: one contract each. Conditions: the reader lies at a block of its own, and what is left is of 2^40 bytes at most. -/
namespace Go.Proofs.YtgeaacabpnepmaaGreatDoor
open Go.RowKit
set_option linter.unusedVariables false

set_option maxRecDepth 100000 in
theorem len64_8 (w : World) : Calls Tryz.prog 257 #[.int .u64 255] w fun e w' => e = .returned (.int .i64 8) ∧ w = w' := by
  go_enter Tryz.func257, Tryz.ntmps257
  go_wp2
  go_ret
  exact ⟨by kernel_rfl, rfl⟩
theorem width8 (w : World) : Calls Tryz.prog 276 #[] w fun e w' => e = .returned (.int .i64 1) ∧ w = w' := by
  go_enter Tryz.func276, Tryz.ntmps276
  go_wp2_with fail
  refine (len64_8 _).mono ?_
  rintro e w' ⟨rfl, rfl⟩
  go_wp2
  go_ret
  exact ⟨rfl, rfl⟩
set_option maxRecDepth 100000 in
theorem len64_16 (w : World) : Calls Tryz.prog 257 #[.int .u64 65535] w fun e w' => e = .returned (.int .i64 16) ∧ w = w' := by
  go_enter Tryz.func257, Tryz.ntmps257
  go_wp2
  go_ret
  exact ⟨by kernel_rfl, rfl⟩
theorem width16 (w : World) : Calls Tryz.prog 291 #[] w fun e w' => e = .returned (.int .i64 2) ∧ w = w' := by
  go_enter Tryz.func291, Tryz.ntmps291
  go_wp2_with fail
  refine (len64_16 _).mono ?_
  rintro e w' ⟨rfl, rfl⟩
  go_wp2
  go_ret
  exact ⟨rfl, rfl⟩
set_option maxRecDepth 100000 in
theorem len64_32 (w : World) : Calls Tryz.prog 257 #[.int .u64 4294967295] w fun e w' => e = .returned (.int .i64 32) ∧ w = w' := by
  go_enter Tryz.func257, Tryz.ntmps257
  go_wp2
  go_ret
  exact ⟨by kernel_rfl, rfl⟩
theorem width32 (w : World) : Calls Tryz.prog 292 #[] w fun e w' => e = .returned (.int .i64 4) ∧ w = w' := by
  go_enter Tryz.func292, Tryz.ntmps292
  go_wp2_with fail
  refine (len64_32 _).mono ?_
  rintro e w' ⟨rfl, rfl⟩
  go_wp2
  go_ret
  exact ⟨rfl, rfl⟩
set_option maxRecDepth 100000 in
theorem len64_64 (w : World) : Calls Tryz.prog 257 #[.int .u64 18446744073709551615] w fun e w' => e = .returned (.int .i64 64) ∧ w = w' := by
  go_enter Tryz.func257, Tryz.ntmps257
  go_wp2
  go_ret
  exact ⟨by kernel_rfl, rfl⟩
theorem width64 (w : World) : Calls Tryz.prog 275 #[] w fun e w' => e = .returned (.int .i64 8) ∧ w = w' := by
  go_enter Tryz.func275, Tryz.ntmps275
  go_wp2_with fail
  refine (len64_64 _).mono ?_
  rintro e w' ⟨rfl, rfl⟩
  go_wp2
  go_ret
  exact ⟨rfl, rfl⟩

def Rd (w : World) (g : Nat) (l : List UInt8) (e : Int) : Prop := Cells w g 362 #[.string (str l), .int .i64 e] ∧ (e ≠ 0 → l = []) ∧ l.length ≤ 1099511627776
def RdTo (w : World) (g : Nat) (l : List UInt8) (e : Int) (w' : World) : Prop := Rd w' g l e ∧ w.grownBy w' (some g)
theorem rd_c0 {w : World} {g : Nat} {l : List UInt8} {e : Int} (h : Rd w g l e) : w.cell? ⟨g, 0, none⟩ = some (.string (str l)) := by rw [h.1.cell]; rfl
theorem rd_c1 {w : World} {g : Nat} {l : List UInt8} {e : Int} (h : Rd w g l e) : w.cell? ⟨g, 1, none⟩ = some (.int .i64 e) := by rw [h.1.cell]; rfl
theorem rd_f {w : World} {g : Nat} {l : List UInt8} {e : Int} (h : Rd w g l e) (i : Nat) : w.frozen? ⟨g, i, none⟩ = false := h.1.frozen i
theorem rd_len {w : World} {g : Nat} {l : List UInt8} {e : Int} (h : Rd w g l e) : l.length ≤ 1099511627776 := h.2.2
theorem drop_c (g : Nat) (s : ByteArray) (e : Int) (w : World) (hc : w.cell? ⟨g, 0, none⟩ = some (.string s)) (hf : w.frozen? ⟨g, 0, none⟩ = false) :
    Calls Tryz.prog 318 #[.pointer (some ⟨g, 0, none⟩)] w fun E w' => E = .returned (.tuple #[]) ∧ w.setCell ⟨g, 0, none⟩ (.string (str [])) = w' := by
  go_enter Tryz.func318, Tryz.ntmps318
  go_wp2
  go_end0
  exact ⟨rfl, rfl⟩

theorem fail_c (g : Nat) (l : List UInt8) (e c : Int) (w : World) (h : Rd w g l e) :
    Calls Tryz.prog 317 #[.pointer (some ⟨g, 0, none⟩), .int .i64 c] w fun E w' => E = .returned (.tuple #[]) ∧ RdTo w g [] (fin e c) w' := by
  have c0 := rd_c0 h
  have c1 := rd_c1 h
  have f0 := rd_f h 0
  have f1 := rd_f h 1
  by_cases he : e = 0
  · have hb : (e == 0) = true := beq_iff_eq.2 he
    have HE := Lib.hid he
    clear he
    go_enter Tryz.func317, Tryz.ntmps317
    go_wp2_with fail
    refine (drop_c g (str l) e _ (by go_simp) (by go_simp)).mono ?_
    rintro E w' ⟨rfl, rfl⟩
    go_wp2
    go_end0
    refine ⟨rfl, ⟨?_, fun _ => rfl, by simp⟩, (grown_set w g 1 _).trans (grown_set _ g 0 _)⟩
    have := (h.1.set 1 (.int .i64 c)).set 0 (.string (str []))
    simpa [fin, HE.out] using this
  · have hb : (e == 0) = false := beq_eq_false_iff_ne.2 he
    have HE := Lib.hid he
    clear he
    go_enter Tryz.func317, Tryz.ntmps317
    go_wp2_with fail
    refine (drop_c g (str l) e _ (by go_simp) (by go_simp)).mono ?_
    rintro E w' ⟨rfl, rfl⟩
    go_wp2
    go_end0
    refine ⟨rfl, ⟨?_, fun _ => rfl, by simp⟩, grown_set w g 0 _⟩
    have := h.1.set 0 (.string (str []))
    simpa [fin, HE.out] using this

theorem cut_yes (g n : Nat) (l : List UInt8) (e : Int) (w : World) (h : Rd w g l e) (hn : n ≤ l.length) :
    Calls Tryz.prog 316 #[.pointer (some ⟨g, 0, none⟩), .int .u64 n] w fun E w' => E = .returned (.tuple #[.string (str (l.take n)), .bool true]) ∧ w.setCell ⟨g, 0, none⟩ (.string (str (l.drop n))) = w' := by
  have c0 := rd_c0 h
  have f0 := rd_f h 0
  have hl := rd_len h
  have hs := str_size l
  rw [← str_cut l n, ← str_rest l n]
  go_enter Tryz.func316, Tryz.ntmps316
  go_wp2
  go_ret2
  exact ⟨rfl, rfl⟩
theorem cut_no (g n : Nat) (l : List UInt8) (e : Int) (w : World) (h : Rd w g l e) (hn : l.length < n) :
    Calls Tryz.prog 316 #[.pointer (some ⟨g, 0, none⟩), .int .u64 n] w fun E w' => E = .returned (.tuple #[.string (str []), .bool false]) ∧ w = w' := by
  have c0 := rd_c0 h
  have f0 := rd_f h 0
  have hl := rd_len h
  have hs := str_size l
  go_enter Tryz.func316, Tryz.ntmps316
  go_wp2
  go_ret2
  exact ⟨rfl, rfl⟩

theorem take_c (g n : Nat) (l : List UInt8) (e : Int) (w : World) (h : Rd w g l e) :
    Calls Tryz.prog 313 #[.pointer (some ⟨g, 0, none⟩), .int .u64 n] w fun E w' => E = .returned (.string (str (tk n l).val)) ∧ RdTo w g (tk n l).rest (fin e (tk n l).err) w' := by
  unfold tk
  by_cases hn : n ≤ l.length
  · rw [if_pos hn]
    go_enter Tryz.func313, Tryz.ntmps313
    go_wp2_with fail
    refine (cut_yes g n l e _ h hn).mono ?_
    rintro E w' ⟨rfl, rfl⟩
    go_wp2
    go_ret
    refine ⟨rfl, ⟨?_, fun he => by have := h.2.1 (by simpa [fin_zero] using he); simp [this], by have := h.2.2; simp; omega⟩, grown_set w g 0 _⟩
    have := h.1.set 0 (.string (str (l.drop n)))
    simpa [fin_zero] using this
  · rw [if_neg hn]
    go_enter Tryz.func313, Tryz.ntmps313
    go_wp2_with fail
    refine (cut_no g n l e _ h (by omega)).mono ?_
    rintro E w' ⟨rfl, rfl⟩
    go_wp2_with fail
    refine (fail_c g l e 10 _ h).mono ?_
    rintro E w' ⟨rfl, hw⟩
    go_wp2
    go_ret
    exact ⟨rfl, hw⟩
end Go.Proofs.YtgeaacabpnepmaaGreatDoor
/- The functions of package codec that read numbers, vars and texts: one contract each. -/
namespace Go.Proofs.YtgeaacabpnepmaaGreatDoor
open Go.RowKit
set_option linter.unusedVariables false

theorem rd_bytes (w1 W : World) (x : List UInt8) (e : TypeId) (hW : Lib.bytesWorld w1 e (str x) = W) : ∀ k (hk : k < x.length), W.cell? ⟨w1.heap.size, k, none⟩ = some (.int .u8 (x[k]'hk).toNat) := fun k hk => by
  rw [← hW, Lib.bytesWorld_cell _ _ _ _ (by rw [str_size]; exact hk), str_data]
  simp [List.getD, List.getElem?_eq_getElem hk]
theorem grown_any {w w' : World} {r : Option Nat} (h : w.grownBy w' none) : w.grownBy w' r := ⟨h.os, h.tape, h.output, h.size, fun k hk _ => h.block k hk (by simp)⟩
theorem rdTo_on {w w1 w2 : World} {g : Nat} {l : List UInt8} {e : Int} (h : RdTo w g l e w1) (k : w1.grownBy w2 none) : RdTo w g l e w2 :=
  ⟨⟨h.1.1.grown k (by simp), h.1.2⟩, h.2.trans (grown_any k)⟩
theorem rd_on {w1 w2 : World} {g : Nat} {l : List UInt8} {e : Int} (h : Rd w1 g l e) (k : w1.grownBy w2 none) : Rd w2 g l e := ⟨h.1.grown k (by simp), h.2⟩
theorem num_tk (n : Nat) (l : List UInt8) : num n l = ⟨(tk n l).err, un (tk n l).val, (tk n l).rest⟩ := by
  unfold num tk; split <;> simp [un]
theorem tk_val_len (n : Nat) (l : List UInt8) : (tk n l).val.length ≤ n := by
  unfold tk; split
  · simp; omega
  · simp

set_option maxHeartbeats 400000 in
theorem next8 (g : Nat) (l : List UInt8) (e : Int) (w : World) (h : Rd w g l e) :
    Calls Tryz.prog 307 #[.pointer (some ⟨g, 0, none⟩)] w fun E w' => E = .returned (.int .u8 (num 1 l).val) ∧ RdTo w g (num 1 l).rest (fin e (num 1 l).err) w' := by
  rw [num_tk 1 l]
  have h8 := tk_val_len 1 l
  go_enter Tryz.func307, Tryz.ntmps307
  go_wp2_with fail
  refine (width8 _).mono ?_
  rintro E w' ⟨rfl, rfl⟩
  go_wp2_with fail
  refine (take_c g 1 l e _ h).mono ?_
  rintro E w1 ⟨rfl, hw1⟩
  generalize hxx : (tk 1 l).val = x at *
  have HXX := Lib.hid hxx
  clear hxx
  have hcv := Lib.run_convert_string_bytes (P := Tryz.prog) w1 9 181 5 (str x) Tryz.underlying9 Tryz.underlying181 Tryz.underlying5
  rw [str_size x] at hcv
  have HC := Lib.hid (rd_bytes w1 _ x 5 rfl)
  have hgr := grown_bytes w1 5 (str x) none
  have hsz : (str x).size = x.length := str_size x
  go_wp2
  generalize Lib.bytesWorld w1 5 (str x) = W at *
  generalize w1.heap.size = B at *
  generalize grownCap w1 x.length 0 5 = cap at *
  clear hcv hsz
  go_loop [3, 12] (fun n j => ∃ k : Nat, k ≤ x.length ∧ j = .int .i64 k ∧ n = .int .u64 (un (x.take k))) (fun _ j => x.length - (intOf j).toNat)
  case atStart => exact ⟨0, Nat.zero_le _, rfl, rfl⟩
  case round =>
    obtain ⟨k, hk, rfl, rfl⟩ := hrel
    by_cases hlt : k < x.length
    · have hck := HC.out k hlt
      have HU := Lib.hid (un_step x k hlt (by omega))
      go_wp2
      go_round
      case rel => exact ⟨k + 1, by omega, by go_num, by rw [HU.out]⟩
      case measure => simp [intOf]; omega
    · have hx : k = x.length := by omega
      have hun := un_take_lt x k
      have hu2 := Nat.pow_le_pow_right (n := 256) (by omega) h8
      have hu3 : un (x.take k) < 256 := Nat.lt_of_lt_of_le hun hu2
      clear hun hu2
      have HX := Lib.hid hx
      clear hx
      go_wp2
      go_ret
      exact ⟨by rw [HXX.out, HX.out, List.take_length]; rfl, rdTo_on hw1 hgr⟩

set_option maxHeartbeats 400000 in
theorem next16 (g : Nat) (l : List UInt8) (e : Int) (w : World) (h : Rd w g l e) :
    Calls Tryz.prog 314 #[.pointer (some ⟨g, 0, none⟩)] w fun E w' => E = .returned (.int .u16 (num 2 l).val) ∧ RdTo w g (num 2 l).rest (fin e (num 2 l).err) w' := by
  rw [num_tk 2 l]
  have h8 := tk_val_len 2 l
  go_enter Tryz.func314, Tryz.ntmps314
  go_wp2_with fail
  refine (width16 _).mono ?_
  rintro E w' ⟨rfl, rfl⟩
  go_wp2_with fail
  refine (take_c g 2 l e _ h).mono ?_
  rintro E w1 ⟨rfl, hw1⟩
  generalize hxx : (tk 2 l).val = x at *
  have HXX := Lib.hid hxx
  clear hxx
  have hcv := Lib.run_convert_string_bytes (P := Tryz.prog) w1 9 181 5 (str x) Tryz.underlying9 Tryz.underlying181 Tryz.underlying5
  rw [str_size x] at hcv
  have HC := Lib.hid (rd_bytes w1 _ x 5 rfl)
  have hgr := grown_bytes w1 5 (str x) none
  have hsz : (str x).size = x.length := str_size x
  go_wp2
  generalize Lib.bytesWorld w1 5 (str x) = W at *
  generalize w1.heap.size = B at *
  generalize grownCap w1 x.length 0 5 = cap at *
  clear hcv hsz
  go_loop [3, 12] (fun n j => ∃ k : Nat, k ≤ x.length ∧ j = .int .i64 k ∧ n = .int .u64 (un (x.take k))) (fun _ j => x.length - (intOf j).toNat)
  case atStart => exact ⟨0, Nat.zero_le _, rfl, rfl⟩
  case round =>
    obtain ⟨k, hk, rfl, rfl⟩ := hrel
    by_cases hlt : k < x.length
    · have hck := HC.out k hlt
      have HU := Lib.hid (un_step x k hlt (by omega))
      go_wp2
      go_round
      case rel => exact ⟨k + 1, by omega, by go_num, by rw [HU.out]⟩
      case measure => simp [intOf]; omega
    · have hx : k = x.length := by omega
      have hun := un_take_lt x k
      have hu2 := Nat.pow_le_pow_right (n := 256) (by omega) h8
      have hu3 : un (x.take k) < 65536 := Nat.lt_of_lt_of_le hun hu2
      clear hun hu2
      have HX := Lib.hid hx
      clear hx
      go_wp2
      go_ret
      exact ⟨by rw [HXX.out, HX.out, List.take_length]; rfl, rdTo_on hw1 hgr⟩

set_option maxHeartbeats 400000 in
theorem next32 (g : Nat) (l : List UInt8) (e : Int) (w : World) (h : Rd w g l e) :
    Calls Tryz.prog 315 #[.pointer (some ⟨g, 0, none⟩)] w fun E w' => E = .returned (.int .u32 (num 4 l).val) ∧ RdTo w g (num 4 l).rest (fin e (num 4 l).err) w' := by
  rw [num_tk 4 l]
  have h8 := tk_val_len 4 l
  go_enter Tryz.func315, Tryz.ntmps315
  go_wp2_with fail
  refine (width32 _).mono ?_
  rintro E w' ⟨rfl, rfl⟩
  go_wp2_with fail
  refine (take_c g 4 l e _ h).mono ?_
  rintro E w1 ⟨rfl, hw1⟩
  generalize hxx : (tk 4 l).val = x at *
  have HXX := Lib.hid hxx
  clear hxx
  have hcv := Lib.run_convert_string_bytes (P := Tryz.prog) w1 9 181 5 (str x) Tryz.underlying9 Tryz.underlying181 Tryz.underlying5
  rw [str_size x] at hcv
  have HC := Lib.hid (rd_bytes w1 _ x 5 rfl)
  have hgr := grown_bytes w1 5 (str x) none
  have hsz : (str x).size = x.length := str_size x
  go_wp2
  generalize Lib.bytesWorld w1 5 (str x) = W at *
  generalize w1.heap.size = B at *
  generalize grownCap w1 x.length 0 5 = cap at *
  clear hcv hsz
  go_loop [3, 12] (fun n j => ∃ k : Nat, k ≤ x.length ∧ j = .int .i64 k ∧ n = .int .u64 (un (x.take k))) (fun _ j => x.length - (intOf j).toNat)
  case atStart => exact ⟨0, Nat.zero_le _, rfl, rfl⟩
  case round =>
    obtain ⟨k, hk, rfl, rfl⟩ := hrel
    by_cases hlt : k < x.length
    · have hck := HC.out k hlt
      have HU := Lib.hid (un_step x k hlt (by omega))
      go_wp2
      go_round
      case rel => exact ⟨k + 1, by omega, by go_num, by rw [HU.out]⟩
      case measure => simp [intOf]; omega
    · have hx : k = x.length := by omega
      have hun := un_take_lt x k
      have hu2 := Nat.pow_le_pow_right (n := 256) (by omega) h8
      have hu3 : un (x.take k) < 4294967296 := Nat.lt_of_lt_of_le hun hu2
      clear hun hu2
      have HX := Lib.hid hx
      clear hx
      go_wp2
      go_ret
      exact ⟨by rw [HXX.out, HX.out, List.take_length]; rfl, rdTo_on hw1 hgr⟩

set_option maxHeartbeats 400000 in
theorem next64 (g : Nat) (l : List UInt8) (e : Int) (w : World) (h : Rd w g l e) :
    Calls Tryz.prog 306 #[.pointer (some ⟨g, 0, none⟩)] w fun E w' => E = .returned (.int .u64 (num 8 l).val) ∧ RdTo w g (num 8 l).rest (fin e (num 8 l).err) w' := by
  rw [num_tk 8 l]
  have h8 := tk_val_len 8 l
  go_enter Tryz.func306, Tryz.ntmps306
  go_wp2_with fail
  refine (width64 _).mono ?_
  rintro E w' ⟨rfl, rfl⟩
  go_wp2_with fail
  refine (take_c g 8 l e _ h).mono ?_
  rintro E w1 ⟨rfl, hw1⟩
  generalize hxx : (tk 8 l).val = x at *
  have HXX := Lib.hid hxx
  clear hxx
  have hcv := Lib.run_convert_string_bytes (P := Tryz.prog) w1 9 181 5 (str x) Tryz.underlying9 Tryz.underlying181 Tryz.underlying5
  rw [str_size x] at hcv
  have HC := Lib.hid (rd_bytes w1 _ x 5 rfl)
  have hgr := grown_bytes w1 5 (str x) none
  have hsz : (str x).size = x.length := str_size x
  go_wp2
  generalize Lib.bytesWorld w1 5 (str x) = W at *
  generalize w1.heap.size = B at *
  generalize grownCap w1 x.length 0 5 = cap at *
  clear hcv hsz
  go_loop [3, 12] (fun n j => ∃ k : Nat, k ≤ x.length ∧ j = .int .i64 k ∧ n = .int .u64 (un (x.take k))) (fun _ j => x.length - (intOf j).toNat)
  case atStart => exact ⟨0, Nat.zero_le _, rfl, rfl⟩
  case round =>
    obtain ⟨k, hk, rfl, rfl⟩ := hrel
    by_cases hlt : k < x.length
    · have hck := HC.out k hlt
      have HU := Lib.hid (un_step x k hlt (by omega))
      go_wp2
      go_round
      case rel => exact ⟨k + 1, by omega, by go_num, by rw [HU.out]⟩
      case measure => simp [intOf]; omega
    · have hx : k = x.length := by omega
      have hun := un_take_lt x k
      have hu2 := Nat.pow_le_pow_right (n := 256) (by omega) h8
      have hu3 : un (x.take k) < 18446744073709551616 := Nat.lt_of_lt_of_le hun hu2
      clear hun hu2
      have HX := Lib.hid hx
      clear hx
      go_wp2
      go_ret
      exact ⟨by rw [HXX.out, HX.out, List.take_length]; rfl, rdTo_on hw1 hgr⟩
end Go.Proofs.YtgeaacabpnepmaaGreatDoor
/- The functions of package codec that read, at last: a number of each width, a var, a text; the error and the rest. -/
namespace Go.Proofs.YtgeaacabpnepmaaGreatDoor
open Go.RowKit
set_option linter.unusedVariables false

theorem rdU8 (g : Nat) (l : List UInt8) (e : Int) (w : World) (h : Rd w g l e) :
    Calls Tryz.prog 280 #[.pointer (some ⟨g, 0, none⟩)] w fun E w' => E = .returned (.int .u8 (num 1 l).val) ∧ RdTo w g (num 1 l).rest (fin e (num 1 l).err) w' := by
  go_enter Tryz.func280, Tryz.ntmps280
  go_wp2_with fail
  refine (next8 g l e _ h).mono ?_
  rintro E w1 ⟨rfl, hw1⟩
  go_wp2
  go_ret
  exact ⟨rfl, hw1⟩
theorem rdU16 (g : Nat) (l : List UInt8) (e : Int) (w : World) (h : Rd w g l e) :
    Calls Tryz.prog 311 #[.pointer (some ⟨g, 0, none⟩)] w fun E w' => E = .returned (.int .u16 (num 2 l).val) ∧ RdTo w g (num 2 l).rest (fin e (num 2 l).err) w' := by
  go_enter Tryz.func311, Tryz.ntmps311
  go_wp2_with fail
  refine (next16 g l e _ h).mono ?_
  rintro E w1 ⟨rfl, hw1⟩
  go_wp2
  go_ret
  exact ⟨rfl, hw1⟩
theorem rdU32 (g : Nat) (l : List UInt8) (e : Int) (w : World) (h : Rd w g l e) :
    Calls Tryz.prog 312 #[.pointer (some ⟨g, 0, none⟩)] w fun E w' => E = .returned (.int .u32 (num 4 l).val) ∧ RdTo w g (num 4 l).rest (fin e (num 4 l).err) w' := by
  go_enter Tryz.func312, Tryz.ntmps312
  go_wp2_with fail
  refine (next32 g l e _ h).mono ?_
  rintro E w1 ⟨rfl, hw1⟩
  go_wp2
  go_ret
  exact ⟨rfl, hw1⟩
theorem rdU64 (g : Nat) (l : List UInt8) (e : Int) (w : World) (h : Rd w g l e) :
    Calls Tryz.prog 279 #[.pointer (some ⟨g, 0, none⟩)] w fun E w' => E = .returned (.int .u64 (num 8 l).val) ∧ RdTo w g (num 8 l).rest (fin e (num 8 l).err) w' := by
  go_enter Tryz.func279, Tryz.ntmps279
  go_wp2_with fail
  refine (next64 g l e _ h).mono ?_
  rintro E w1 ⟨rfl, hw1⟩
  go_wp2
  go_ret
  exact ⟨rfl, hw1⟩
end Go.Proofs.YtgeaacabpnepmaaGreatDoor
/- The functions of package codec that read: texts, the error, the rest, a new reader; readers that are none. -/
namespace Go.Proofs.YtgeaacabpnepmaaGreatDoor
open Go.RowKit
set_option linter.unusedVariables false

theorem rdErr (g : Nat) (l : List UInt8) (e : Int) (w : World) (h : Rd w g l e) :
    Calls Tryz.prog 244 #[.pointer (some ⟨g, 0, none⟩)] w fun E w' => E = .returned (.int .i64 e) ∧ w = w' := by
  have c1 := rd_c1 h
  go_enter Tryz.func244, Tryz.ntmps244
  go_wp2
  go_ret
  exact ⟨rfl, rfl⟩
theorem rdRest (g : Nat) (l : List UInt8) (e : Int) (w : World) (h : Rd w g l e) :
    Calls Tryz.prog 245 #[.pointer (some ⟨g, 0, none⟩)] w fun E w' => E = .returned (.string (str l)) ∧ w = w' := by
  have c0 := rd_c0 h
  go_enter Tryz.func245, Tryz.ntmps245
  go_wp2
  go_ret
  exact ⟨rfl, rfl⟩
def RdNew (l : List UInt8) (w : World) (E : Ending) (w' : World) : Prop :=
  E = .returned (.pointer (some ⟨w.heap.size, 0, none⟩)) ∧ Rd w' w.heap.size l 0 ∧ w.grownBy w' none ∧ w'.heap.size = w.heap.size + 1
theorem rdNew (l : List UInt8) (w : World) (hl : l.length ≤ 1099511627776) :
    Calls Tryz.prog 242 #[.string (str l)] w (RdNew l w) := by
  go_enter Tryz.func242, Tryz.ntmps242
  go_wp2
  go_ret
  refine ⟨rfl, ⟨Cells.made _ _ _, fun h => absurd rfl h, hl⟩, ⟨rfl, rfl, rfl, by simp, fun k hk _ => Below.heap_alloc _ _ _ hk⟩, by simp⟩


end Go.Proofs.YtgeaacabpnepmaaGreatDoor
/- The functions of package codec that write, as the walk of the program's text gives them: one contract each. Conditions: the writer lies at a block of its own, its row behind it; it holds 2^40 bytes at most. -/
namespace Go.Proofs.YtgeaacabpnepmaaGreatDoor
open Go.RowKit
set_option linter.unusedVariables false

def Wr (w : World) (g : Nat) (bs : List UInt8) : Prop :=
  ∃ ao cap, Cells w g 272 #[.slice ao bs.length cap] ∧ w.ownsRow (g + 1) 5 1 (.slice ao bs.length cap) bs.length (bvs bs)
def WrTo (w : World) (g : Nat) (bs : List UInt8) (w' : World) : Prop := Wr w' g bs ∧ Below g w w'
theorem wr_lt {w : World} {g : Nat} {bs : List UInt8} (h : Wr w g bs) : g < w.heap.size := by obtain ⟨_, _, hc, _⟩ := h; exact hc.lt
theorem wr_on0 {w w' : World} {g : Nat} {bs : List UInt8} (h : Wr w g bs) (k : w.grownBy w' none) : Wr w' g bs := by
  obtain ⟨ao, cap, hc, ho⟩ := h
  exact ⟨ao, cap, hc.grown k (by simp), ho.kept k (by
    rcases ho.2 with ⟨he, _⟩ | ⟨g', cap', cur, he, hg, _⟩
    · rw [he]; exact .inl rfl
    · rw [he]; exact .inr (by simp [Value.ownBlock]))⟩
theorem wr_new (w : World) : Wr (w.alloc (.cells #[.slice none 0 0] 272)) w.heap.size [] :=
  ⟨none, 0, Cells.made w _ _, World.ownsRow_nil _ _ _ _⟩
theorem info_u8 : (Tryz.prog.info? 5).map (fun i => (i.zero, i.size, i.bytes)) = some (some (.int .u8 0), 1, 1) := by kernel_rfl
theorem le_snoc : ∀ (k n : Nat), le (k + 1) n = le k n ++ [UInt8.ofNat (n / 256 ^ k % 256)]
  | 0, n => by simp [le]
  | k + 1, n => by
    rw [le, le_snoc k (n / 256)]
    simp [le, Nat.pow_succ, Nat.div_div_eq_div_mul, Nat.mul_comm]
theorem byte_of (n i : Nat) : IntKind.u8.wrap ((n : Int) / 2 ^ (8 * i)) = ((UInt8.ofNat (n / 256 ^ i % 256)).toNat : Int) := by
  have hp : 256 ^ i = 2 ^ (8 * i) := by rw [show (256 : Nat) = 2 ^ 8 from rfl, ← Nat.pow_mul]
  rw [hp]
  generalize 8 * i = j
  have h1 : (UInt8.ofNat (n / 2 ^ j % 256)).toNat = n / 2 ^ j % 256 := by rw [UInt8.toNat_ofNat']; exact Nat.mod_mod _ _
  have h2 : ((n : Int) / 2 ^ j) = ((n / 2 ^ j : Nat) : Int) := by rw [Int.natCast_ediv, Int.natCast_pow]; rfl
  rw [h1, IntKind.wrap_u8', h2]
  omega
theorem byte_of' (n i : Nat) (hn : n < 18446744073709551616) : IntKind.u8.wrap (IntKind.u64.wrap (n : Int) / 2 ^ (8 * i)) = ((UInt8.ofNat (n / 256 ^ i % 256)).toNat : Int) := by
  rw [u64_id _ (by omega) (by omega), byte_of]
theorem wr_put {w wr W w1 : World} {g cap cap' : Nat} {ao ao' : Option Addr} {bb cc : List UInt8} (hb : Below g w wr) (hgl : g < W.heap.size) (hW : Below g wr W) (hc1 : Cells w1 g 272 #[.slice ao bb.length cap])
    (hown : wr.ownsRow (g + 1) 5 1 (.slice ao bb.length cap) bb.length (bvs bb)) (hgr : W.grownBy w1 (Value.slice ao bb.length cap).ownBlock)
    (hown1 : w1.ownsRow (g + 1) 5 1 (.slice ao' (bb.length + cc.length) cap') (bb.length + cc.length) (bvs bb ++ bvs cc)) :
    WrTo w g (bb ++ cc) (w1.setCell ⟨g, 0, none⟩ (.slice ao' (bb.length + cc.length) cap')) := by
  refine ⟨⟨ao', cap', ?_, ?_⟩, ((hb.trans hW).grown hgr (by omega) (fun k e => by have := (hown.lt k e).1; omega)).setCell (Nat.le_refl _) _⟩
  · have := hc1.set 0 (.slice ao' (bb.length + cc.length) cap')
    simpa using this
  · have := ownsRow_setCell_below hown1 (a := ⟨g, 0, none⟩) (by show g < g + 1; omega) (.slice ao' (bb.length + cc.length) cap')
    simpa [bvs_append] using this
theorem wr_push {w wr W w1 : World} {g g' cap cap' : Nat} {ao : Option Addr} {bb : List UInt8} {x : Int} {b : UInt8} (hb : Below g w wr) (hgl : g < W.heap.size) (hW : Below g wr W) (hc1 : Cells w1 g 272 #[.slice ao bb.length cap])
    (hown : wr.ownsRow (g + 1) 5 1 (.slice ao bb.length cap) bb.length (bvs bb)) (hgr : W.grownBy w1 (Value.slice ao bb.length cap).ownBlock)
    (hown1 : w1.ownsRow (g + 1) 5 1 (.slice (some ⟨g', 0, none⟩) (bb.length + 1) cap') (bb.length + 1) (bvs bb ++ [.int .u8 x])) (hx : x = (b.toNat : Int)) :
    WrTo w g (bb ++ [b]) (w1.setCell ⟨g, 0, none⟩ (.slice (some ⟨g', 0, none⟩) (bb.length + 1) cap')) := by
  subst hx
  exact wr_put (cc := [b]) hb hgl hW hc1 hown hgr hown1
def PutRel (w : World) (g : Nat) (bs : List UInt8) (k n : Nat) (j : Value) (wr : World) : Prop :=
  ∃ i : Nat, i ≤ k ∧ j = .int .i64 i ∧ WrTo w g (bs ++ le i n) wr

set_option maxHeartbeats 1000000 in
set_option maxRecDepth 20000 in
theorem put8 (g n : Nat) (bs : List UInt8) (w : World) (h : Wr w g bs) (hl : bs.length ≤ 1099511627776) (hn : n < 256) :
    Calls Tryz.prog 238 #[.pointer (some ⟨g, 0, none⟩), .int .u8 n] w fun E w' => E = .returned (.tuple #[]) ∧ WrTo w g (bs ++ le 1 n) w' := by
  have HN := Lib.hid hn
  clear hn
  go_enter Tryz.func238, Tryz.ntmps238
  go_wp2_with fail
  refine (width8 _).mono ?_
  rintro E w' ⟨rfl, rfl⟩
  go_wp2
  go_loopw [4, 8] (fun _ j wr => PutRel w g bs 1 n j wr) (fun _ j _ => 1 - (intOf j).toNat)
  case atStart => exact ⟨0, by omega, rfl, by simpa [le] using h, Below.refl _ _⟩
  case round =>
    obtain ⟨i, hi, rfl, hto⟩ := hrel
    by_cases hlt : i < 1
    · have hll : (bs ++ le i n).length = bs.length + i := by rw [List.length_append, le_length]
      have hln : (bs ++ le i n).length + 1 ≤ 1099511627800 := by omega
      have HB := Lib.hid (le_snoc i n)
      clear hll
      generalize hbb : bs ++ le i n = bb at *
      have HBB := Lib.hid hbb
      clear hbb
      obtain ⟨⟨ao, cap, hc, hown⟩, hb⟩ := hto
      have c0 : wr.cell? ⟨g, 0, none⟩ = some (.slice ao bb.length cap) := by rw [hc.cell]; rfl
      have f0 := hc.frozen 0
      obtain ⟨i0, hi0, hz0, hz1, hz2⟩ := info_parts info_u8
      have HI0 := Lib.hid hi0
      have HZ0 := Lib.hid hz0
      have HZ1 := Lib.hid hz1
      have HZ2 := Lib.hid hz2
      clear hi0 hz0 hz1 hz2
      have hb1 : bb.length + 1 ≤ maxLen := by simp only [maxLen]; omega
      have hb2 : (bb.length + 1) * 1 ≤ 140737488355328 := by omega
      have hgl := hc.lt
      have hne : some g ≠ (Value.slice ao bb.length cap).ownBlock := fun e => by have := (hown.lt g e.symm).1; omega
      have HNE := Lib.hid hne
      clear hne
      have e1 : IntKind.i64.wrap (8 * (i : Int)) = 8 * (i : Int) := IntWalk.i64_in _ (by omega)
      have e2 : (8 * (i : Int)).toNat = 8 * i := by omega
      have e3 : (0 : Int) ≤ 8 * (i : Int) := by omega
      go_wp2
      go_region_law (refine step_append_lies _ rfl (.tmp 15) (.tmp 22) 181 rfl (g + 1) 5 i0 (.int .u8 0) 1 1 Tryz.underlying181 HI0.out HZ0.out HZ1.out HZ2.out rfl (by decide) _ _ _ (by simp [Act.eval]) (hown.alloc _) ⟨wr.heap.size, 0, none⟩ 1 1 [_] (by simp [Act.eval]) rfl (cell_one_new _ _ _) (by simp [Value.oneCell']) (by decide) hb1 hb2 (by simp; omega) _ rfl ?_; intro g' cap' w1 hown1 hgr hat hlt1; have hc1 := Cells.grown (hc.alloc _).drew hgr HNE.out; have c1 : w1.cell? ⟨g, 0, none⟩ = some (.slice ao bb.length cap) := (by rw [hc1.cell]; rfl); have f1 := hc1.frozen 0)
      all_goals
        have HG := Lib.hid hgr
        have HA := Lib.hid hat
        clear hgr hat e1 e2 e3
        go_wp2
        go_roundw
        case rel =>
          refine ⟨i + 1, by omega, by go_num, ?_⟩
          rw [HB.out, ← List.append_assoc, HBB.out]
          have hnn := HN.out
          exact wr_push hb (by simp; omega) (((Below.refl g wr).alloc (by omega) _).drew) hc1 hown HG.out hown1 (by first | exact byte_of' n i (by omega) | exact byte_of n i)
        case measure => simp [intOf]; omega
    · have hx : i = 1 := by omega
      have HX := Lib.hid hx
      clear hx
      go_wp2
      go_end0
      exact ⟨rfl, by rw [← HX.out]; exact hto⟩
set_option maxHeartbeats 1000000 in
set_option maxRecDepth 20000 in
theorem put16 (g n : Nat) (bs : List UInt8) (w : World) (h : Wr w g bs) (hl : bs.length ≤ 1099511627776) (hn : n < 65536) :
    Calls Tryz.prog 260 #[.pointer (some ⟨g, 0, none⟩), .int .u16 n] w fun E w' => E = .returned (.tuple #[]) ∧ WrTo w g (bs ++ le 2 n) w' := by
  have HN := Lib.hid hn
  clear hn
  go_enter Tryz.func260, Tryz.ntmps260
  go_wp2_with fail
  refine (width16 _).mono ?_
  rintro E w' ⟨rfl, rfl⟩
  go_wp2
  go_loopw [4, 8] (fun _ j wr => PutRel w g bs 2 n j wr) (fun _ j _ => 2 - (intOf j).toNat)
  case atStart => exact ⟨0, by omega, rfl, by simpa [le] using h, Below.refl _ _⟩
  case round =>
    obtain ⟨i, hi, rfl, hto⟩ := hrel
    by_cases hlt : i < 2
    · have hll : (bs ++ le i n).length = bs.length + i := by rw [List.length_append, le_length]
      have hln : (bs ++ le i n).length + 1 ≤ 1099511627800 := by omega
      have HB := Lib.hid (le_snoc i n)
      clear hll
      generalize hbb : bs ++ le i n = bb at *
      have HBB := Lib.hid hbb
      clear hbb
      obtain ⟨⟨ao, cap, hc, hown⟩, hb⟩ := hto
      have c0 : wr.cell? ⟨g, 0, none⟩ = some (.slice ao bb.length cap) := by rw [hc.cell]; rfl
      have f0 := hc.frozen 0
      obtain ⟨i0, hi0, hz0, hz1, hz2⟩ := info_parts info_u8
      have HI0 := Lib.hid hi0
      have HZ0 := Lib.hid hz0
      have HZ1 := Lib.hid hz1
      have HZ2 := Lib.hid hz2
      clear hi0 hz0 hz1 hz2
      have hb1 : bb.length + 1 ≤ maxLen := by simp only [maxLen]; omega
      have hb2 : (bb.length + 1) * 1 ≤ 140737488355328 := by omega
      have hgl := hc.lt
      have hne : some g ≠ (Value.slice ao bb.length cap).ownBlock := fun e => by have := (hown.lt g e.symm).1; omega
      have HNE := Lib.hid hne
      clear hne
      have e1 : IntKind.i64.wrap (8 * (i : Int)) = 8 * (i : Int) := IntWalk.i64_in _ (by omega)
      have e2 : (8 * (i : Int)).toNat = 8 * i := by omega
      have e3 : (0 : Int) ≤ 8 * (i : Int) := by omega
      go_wp2
      go_region_law (refine step_append_lies _ rfl (.tmp 15) (.tmp 22) 181 rfl (g + 1) 5 i0 (.int .u8 0) 1 1 Tryz.underlying181 HI0.out HZ0.out HZ1.out HZ2.out rfl (by decide) _ _ _ (by simp [Act.eval]) (hown.alloc _) ⟨wr.heap.size, 0, none⟩ 1 1 [_] (by simp [Act.eval]) rfl (cell_one_new _ _ _) (by simp [Value.oneCell']) (by decide) hb1 hb2 (by simp; omega) _ rfl ?_; intro g' cap' w1 hown1 hgr hat hlt1; have hc1 := Cells.grown (hc.alloc _).drew hgr HNE.out; have c1 : w1.cell? ⟨g, 0, none⟩ = some (.slice ao bb.length cap) := (by rw [hc1.cell]; rfl); have f1 := hc1.frozen 0)
      all_goals
        have HG := Lib.hid hgr
        have HA := Lib.hid hat
        clear hgr hat e1 e2 e3
        go_wp2
        go_roundw
        case rel =>
          refine ⟨i + 1, by omega, by go_num, ?_⟩
          rw [HB.out, ← List.append_assoc, HBB.out]
          have hnn := HN.out
          exact wr_push hb (by simp; omega) (((Below.refl g wr).alloc (by omega) _).drew) hc1 hown HG.out hown1 (by first | exact byte_of' n i (by omega) | exact byte_of n i)
        case measure => simp [intOf]; omega
    · have hx : i = 2 := by omega
      have HX := Lib.hid hx
      clear hx
      go_wp2
      go_end0
      exact ⟨rfl, by rw [← HX.out]; exact hto⟩
theorem wrU16 (g n : Nat) (bs : List UInt8) (w : World) (h : Wr w g bs) (hl : bs.length ≤ 1099511627776) (hn : n < 65536) :
    Calls Tryz.prog 228 #[.pointer (some ⟨g, 0, none⟩), .int .u16 n] w fun E w' => E = .returned (.tuple #[]) ∧ WrTo w g (bs ++ le 2 n) w' := by
  have HN := Lib.hid hn
  clear hn
  go_enter Tryz.func228, Tryz.ntmps228
  go_wp2_with fail
  refine (put16 g n bs _ h hl HN.out).mono ?_
  rintro E w' ⟨rfl, hw⟩
  go_wp2
  go_end0
  exact ⟨rfl, hw⟩

set_option maxHeartbeats 1000000 in
set_option maxRecDepth 20000 in
theorem put32 (g n : Nat) (bs : List UInt8) (w : World) (h : Wr w g bs) (hl : bs.length ≤ 1099511627776) (hn : n < 4294967296) :
    Calls Tryz.prog 261 #[.pointer (some ⟨g, 0, none⟩), .int .u32 n] w fun E w' => E = .returned (.tuple #[]) ∧ WrTo w g (bs ++ le 4 n) w' := by
  have HN := Lib.hid hn
  clear hn
  go_enter Tryz.func261, Tryz.ntmps261
  go_wp2_with fail
  refine (width32 _).mono ?_
  rintro E w' ⟨rfl, rfl⟩
  go_wp2
  go_loopw [4, 8] (fun _ j wr => PutRel w g bs 4 n j wr) (fun _ j _ => 4 - (intOf j).toNat)
  case atStart => exact ⟨0, by omega, rfl, by simpa [le] using h, Below.refl _ _⟩
  case round =>
    obtain ⟨i, hi, rfl, hto⟩ := hrel
    by_cases hlt : i < 4
    · have hll : (bs ++ le i n).length = bs.length + i := by rw [List.length_append, le_length]
      have hln : (bs ++ le i n).length + 1 ≤ 1099511627800 := by omega
      have HB := Lib.hid (le_snoc i n)
      clear hll
      generalize hbb : bs ++ le i n = bb at *
      have HBB := Lib.hid hbb
      clear hbb
      obtain ⟨⟨ao, cap, hc, hown⟩, hb⟩ := hto
      have c0 : wr.cell? ⟨g, 0, none⟩ = some (.slice ao bb.length cap) := by rw [hc.cell]; rfl
      have f0 := hc.frozen 0
      obtain ⟨i0, hi0, hz0, hz1, hz2⟩ := info_parts info_u8
      have HI0 := Lib.hid hi0
      have HZ0 := Lib.hid hz0
      have HZ1 := Lib.hid hz1
      have HZ2 := Lib.hid hz2
      clear hi0 hz0 hz1 hz2
      have hb1 : bb.length + 1 ≤ maxLen := by simp only [maxLen]; omega
      have hb2 : (bb.length + 1) * 1 ≤ 140737488355328 := by omega
      have hgl := hc.lt
      have hne : some g ≠ (Value.slice ao bb.length cap).ownBlock := fun e => by have := (hown.lt g e.symm).1; omega
      have HNE := Lib.hid hne
      clear hne
      have e1 : IntKind.i64.wrap (8 * (i : Int)) = 8 * (i : Int) := IntWalk.i64_in _ (by omega)
      have e2 : (8 * (i : Int)).toNat = 8 * i := by omega
      have e3 : (0 : Int) ≤ 8 * (i : Int) := by omega
      go_wp2
      go_region_law (refine step_append_lies _ rfl (.tmp 15) (.tmp 22) 181 rfl (g + 1) 5 i0 (.int .u8 0) 1 1 Tryz.underlying181 HI0.out HZ0.out HZ1.out HZ2.out rfl (by decide) _ _ _ (by simp [Act.eval]) (hown.alloc _) ⟨wr.heap.size, 0, none⟩ 1 1 [_] (by simp [Act.eval]) rfl (cell_one_new _ _ _) (by simp [Value.oneCell']) (by decide) hb1 hb2 (by simp; omega) _ rfl ?_; intro g' cap' w1 hown1 hgr hat hlt1; have hc1 := Cells.grown (hc.alloc _).drew hgr HNE.out; have c1 : w1.cell? ⟨g, 0, none⟩ = some (.slice ao bb.length cap) := (by rw [hc1.cell]; rfl); have f1 := hc1.frozen 0)
      all_goals
        have HG := Lib.hid hgr
        have HA := Lib.hid hat
        clear hgr hat e1 e2 e3
        go_wp2
        go_roundw
        case rel =>
          refine ⟨i + 1, by omega, by go_num, ?_⟩
          rw [HB.out, ← List.append_assoc, HBB.out]
          have hnn := HN.out
          exact wr_push hb (by simp; omega) (((Below.refl g wr).alloc (by omega) _).drew) hc1 hown HG.out hown1 (by first | exact byte_of' n i (by omega) | exact byte_of n i)
        case measure => simp [intOf]; omega
    · have hx : i = 4 := by omega
      have HX := Lib.hid hx
      clear hx
      go_wp2
      go_end0
      exact ⟨rfl, by rw [← HX.out]; exact hto⟩
theorem wrU32 (g n : Nat) (bs : List UInt8) (w : World) (h : Wr w g bs) (hl : bs.length ≤ 1099511627776) (hn : n < 4294967296) :
    Calls Tryz.prog 229 #[.pointer (some ⟨g, 0, none⟩), .int .u32 n] w fun E w' => E = .returned (.tuple #[]) ∧ WrTo w g (bs ++ le 4 n) w' := by
  have HN := Lib.hid hn
  clear hn
  go_enter Tryz.func229, Tryz.ntmps229
  go_wp2_with fail
  refine (put32 g n bs _ h hl HN.out).mono ?_
  rintro E w' ⟨rfl, hw⟩
  go_wp2
  go_end0
  exact ⟨rfl, hw⟩

end Go.Proofs.YtgeaacabpnepmaaGreatDoor
/- The functions of package codec that write, at last: a number with a sign, a var, a text; the bytes; writers that are none. -/
namespace Go.Proofs.YtgeaacabpnepmaaGreatDoor
open Go.RowKit
set_option linter.unusedVariables false

set_option maxRecDepth 100000 in
theorem wr_bytes {w : World} {g cap : Nat} {ao : Option Addr} {bs : List UInt8} (ho : w.ownsRow (g + 1) 5 1 (.slice ao bs.length cap) bs.length (bvs bs)) :
    (convert 181 9 (.slice ao bs.length cap)).run Tryz.prog w = .ok (.string (str bs)) w := by
  rcases ho.2 with ⟨he, h0⟩ | ⟨g', cap', cur, he, _, hh, _⟩
  · have : bs = [] := List.eq_nil_of_length_eq_zero h0
    subst this
    injection he with e1 e2 e3
    subst e1 e3
    exact Lib.run_convert_nil_bytes w _ _ 5 0 Tryz.underlying181 Tryz.underlying5 Tryz.underlying9
  · injection he with e1 e2 e3
    subst e1 e3
    refine run_convert_bytes_back w _ _ 5 _ _ bs Tryz.underlying181 Tryz.underlying5 Tryz.underlying9 (fun j hj => ?_)
    exact ho.cells (g := g') rfl j _ (by simp [bvs, bv, List.getElem?_eq_getElem hj])
theorem wrBytes (g : Nat) (bs : List UInt8) (w : World) (h : Wr w g bs) :
    Calls Tryz.prog 208 #[.pointer (some ⟨g, 0, none⟩)] w fun E w' => E = .returned (.string (str bs)) ∧ w = w' := by
  obtain ⟨ao, cap, hc, hown⟩ := h
  have c0 : w.cell? ⟨g, 0, none⟩ = some (.slice ao bs.length cap) := by rw [hc.cell]; rfl
  have hcv := wr_bytes hown
  go_enter Tryz.func208, Tryz.ntmps208
  go_wp2
  go_ret
  exact ⟨rfl, rfl⟩
end Go.Proofs.YtgeaacabpnepmaaGreatDoor
/- The document's answer for layer 2: numbers, vars and texts as bytes: one contract each. -/
namespace Go.Proofs.YtgeaacabpnepmaaGreatDoor
open Go.RowKit
set_option linter.unusedVariables false

theorem grown_of_below {w w' : World} {r : Option Nat} (h : Below w.heap.size w w') : w.grownBy w' r := ⟨h.os, h.tape, h.output, h.size, fun k hk _ => h.block k hk⟩
theorem below_of_grown {w w' : World} (h : w.grownBy w' none) : Below w.heap.size w w' := ⟨h.os, h.tape, h.output, h.size, fun k hk => h.block k hk (by simp)⟩
end Go.Proofs.YtgeaacabpnepmaaGreatDoor
/- The document's reader for layer 2: numbers: one contract each. -/
namespace Go.Proofs.YtgeaacabpnepmaaGreatDoor
open Go.RowKit
set_option linter.unusedVariables false

end Go.Proofs.YtgeaacabpnepmaaGreatDoor
/- The document's reader for layer 2: vars, texts, the rest: one contract each. -/
namespace Go.Proofs.YtgeaacabpnepmaaGreatDoor
open Go.RowKit
set_option linter.unusedVariables false

end Go.Proofs.YtgeaacabpnepmaaGreatDoor
/- The document's reader for layer 2: texts, the rest, the errors: one contract each. -/
namespace Go.Proofs.YtgeaacabpnepmaaGreatDoor
open Go.RowKit
set_option linter.unusedVariables false

end Go.Proofs.YtgeaacabpnepmaaGreatDoor
