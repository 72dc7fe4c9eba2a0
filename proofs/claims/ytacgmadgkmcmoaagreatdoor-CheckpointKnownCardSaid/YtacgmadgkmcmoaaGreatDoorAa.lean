/- Texts of elder layers, one behind the other. -/
import Derived.WalkKit
import Derived.ProofKit
import Derived.OpenShut
import Derived.Handy
import Derived.Lib.Hide
import Derived.Lib.AppendStr
import Derived.Lib.ConvBytes
import Derived.Laws.OwnMore
import Derived.Laws.IdiomStrings
import Derived.Deep.AppendLies
import Derived.Deep.Draws
import Derived.Laws.BitsAllLaws
import Derived.Test.YtacgmadgkmcmoaaGreatDoorRows
import Derived.BigQuiet
import Derived.Deep.LoopGhost
import Derived.Deep.RegionLaw
import Derived.Lib.BufferRead
import Derived.Deep.QuietTactic
/- Words on memory: strings as lists of bytes, a block that is known whole, what a step may turn. Nothing of the program. -/
namespace Go.Proofs.YtacgmadgkmcmoaaGreatDoor
open Go.RowKit
set_option linter.unusedVariables false

/-- A string out of its bytes, behind a name. -/
def str (l : List UInt8) : ByteArray := ⟨l.toArray⟩
theorem str_size (l : List UInt8) : (str l).size = l.length := by simp [str, ByteArray.size]
theorem str_nil : str [] = ⟨#[]⟩ := rfl
theorem str_data (l : List UInt8) : (str l).data.toList = l := by simp [str]
theorem str_of (s : ByteArray) : s = str s.data.toList := by cases s; simp [str]
theorem str_inj {a b : List UInt8} (h : str a = str b) : a = b := by rw [← str_data a, h, str_data]
theorem str_extract (l : List UInt8) (a b : Nat) : (str l).extract a b = str ((l.take b).drop a) := by
  rw [str_of ((str l).extract a b)]
  congr 1
  simp [str, ByteArray.data_extract, List.drop_take]
theorem str_cut (l : List UInt8) (n : Nat) : (str l).extract 0 n = str (l.take n) := by rw [str_extract]; rfl
theorem str_rest (l : List UInt8) (n : Nat) : (str l).extract n l.length = str (l.drop n) := by rw [str_extract, List.take_length]
theorem str_append (a b : List UInt8) : str a ++ str b = str (a ++ b) := by
  rw [str_of (str a ++ str b)]; simp [str]

/-- A byte as a value. -/
def bv (b : UInt8) : Value := .int .u8 b.toNat
def bvs (l : List UInt8) : List Value := l.map bv
theorem bvs_length (l : List UInt8) : (bvs l).length = l.length := by simp [bvs]
theorem bvs_append (a b : List UInt8) : bvs (a ++ b) = bvs a ++ bvs b := by simp [bvs]
theorem bvs_str (l : List UInt8) : Lib.strCells (str l) = bvs l := by simp [Lib.strCells, bvs, bv, str]

/-- Block g holds just these cells, of element type t, none of them frozen. -/
def Cells (w : World) (g : Nat) (t : TypeId) (cs : Array Value) : Prop := w.heap[g]? = some (.cells cs t (0, 0))

section
variable {w w' : World} {g : Nat} {t : TypeId} {cs : Array Value}
theorem Cells.lt (h : Cells w g t cs) : g < w.heap.size := by
  unfold Cells at h
  exact (Array.getElem?_eq_some_iff.1 h).1
theorem Cells.cell (h : Cells w g t cs) (i : Nat) : w.cell? ⟨g, i, none⟩ = cs[i]? := cell_of_row w g i cs t (0, 0) h
theorem Cells.frozen (h : Cells w g t cs) (i : Nat) : w.frozen? ⟨g, i, none⟩ = false := by
  unfold Cells at h
  simp [World.frozen?, h]
theorem Cells.made (w : World) (t : TypeId) (cs : Array Value) : Cells (w.alloc (.cells cs t)) w.heap.size t cs := heap_alloc_new w _
theorem Cells.alloc (h : Cells w g t cs) (o : Obj) : Cells (w.alloc o) g t cs := (Below.heap_alloc w o g h.lt).trans h
theorem Cells.drew (h : Cells w g t cs) : Cells w.drew g t cs := h
theorem Cells.set (h : Cells w g t cs) (i : Nat) (u : Value) : Cells (w.setCell ⟨g, i, none⟩ u) g t (cs.setIfInBounds i u) := by
  unfold Cells at h ⊢
  simp [World.setCell, Array.getElem?_modify, h]
theorem Cells.far (h : Cells w g t cs) {p : Addr} (hp : g ≠ p.block) (u : Value) : Cells (w.setCell p u) g t cs := (Below.heap_setCell w p u g hp).trans h
theorem Cells.below {B : Nat} (h : Cells w g t cs) (hb : Below B w w') (hg : g < B) : Cells w' g t cs := (hb.block g hg).trans h
theorem Cells.grown {row : Option Nat} (h : Cells w g t cs) (hb : w.grownBy w' row) (hg : some g ≠ row) : Cells w' g t cs := (hb.block g h.lt hg).trans h
theorem Cells.unlike {g' : Nat} {t' : TypeId} {cs' : Array Value} (h : Cells w g t cs) (h' : Cells w g' t' cs') (hne : t ≠ t') : g ≠ g' := by
  rintro rfl
  unfold Cells at h h'
  rw [h] at h'
  simp at h'
  exact hne h'.2
theorem row_unlike {base : Nat} {e : TypeId} {size n : Nat} {v : Value} {xs : List Value} (h : w.ownsRow base e size v n xs) (hg : Cells w g t cs) (hne : e ≠ t) : v.ownBlock ≠ some g := by
  rcases h.2 with ⟨rfl, _⟩ | ⟨g', cap, cur, rfl, _, hh, _⟩
  · simp [Value.ownBlock]
  · intro he
    have : g' = g := by simpa [Value.ownBlock] using he
    subst this
    exact Cells.unlike (t := e) hh hg hne rfl
end

theorem grown_refl (w : World) (r : Option Nat) : w.grownBy w r := World.grownBy.refl w r
theorem grown_set (w : World) (g i : Nat) (u : Value) : w.grownBy (w.setCell ⟨g, i, none⟩ u) (some g) :=
  ⟨rfl, rfl, rfl, by simp [World.setCell], fun k _ hk => Below.heap_setCell w _ u k (fun e => hk (by rw [e]))⟩
theorem grown_bytes (w : World) (e : TypeId) (s : ByteArray) (r : Option Nat) : w.grownBy (Lib.bytesWorld w e s) r :=
  ⟨rfl, rfl, rfl, by rw [Lib.bytesWorld_size]; omega, fun k hk _ => Lib.bytesWorld_at_old w e s k hk⟩
theorem grown_below {w w' : World} {B g : Nat} (h : w.grownBy w' (some g)) (hg : B ≤ g) (hB : B ≤ w.heap.size) : Below B w w' :=
  (Below.refl B w).grown h hB (fun k e => by cases e; exact hg)
theorem below_row {w w' : World} {B : Nat} {e : TypeId} {size : Nat} {v : Value} {n : Nat} {xs : List Value} {base : Nat} (h : w.ownsRow base e size v n xs) (hb : w.grownBy w' (some B)) (hB : B < base) : w'.ownsRow base e size v n xs :=
  h.kept hb (by
    rcases h.2 with ⟨rfl, _⟩ | ⟨g', cap, cur, rfl, hg, _⟩
    · exact .inl rfl
    · exact .inr (by simp [Value.ownBlock]; omega))
theorem grown_nb {w w' : World} {B : Nat} {r : Option Nat} (h : w.grownBy w' r) (hr : ∀ k, r = some k → B ≤ k) (hB : B ≤ w.heap.size) : Below B w w' :=
  (Below.refl B w).grown h hB hr
end Go.Proofs.YtacgmadgkmcmoaaGreatDoor
/- Numbers and strings as bytes: the plain mathematics of layer 2. Nothing of the program. -/
namespace Go.Proofs.YtacgmadgkmcmoaaGreatDoor
open Go.RowKit
set_option linter.unusedVariables false

/-- k bytes of a number, the lowest first. -/
def le : Nat → Nat → List UInt8
  | 0, _ => []
  | k + 1, n => UInt8.ofNat (n % 256) :: le k (n / 256)
/-- The number that bytes are. -/
def un : List UInt8 → Nat
  | [] => 0
  | b :: r => b.toNat + 256 * un r
/-- The bytes of a var; the first argument bounds their count. -/
def vrF : Nat → Nat → List UInt8
  | 0, n => [UInt8.ofNat n]
  | f + 1, n => if n < 128 then [UInt8.ofNat n] else UInt8.ofNat (n % 128 + 128) :: vrF f (n / 128)
def vr (n : Nat) : List UInt8 := vrF 9 n
def tx (s : List UInt8) : List UInt8 := vr s.length ++ s

/-- What reading gives: the error (0: none), the value, what is left. -/
structure Got (α : Type) where
  err : Int
  val : α
  rest : List UInt8
def tk (n : Nat) (l : List UInt8) : Got (List UInt8) := if n ≤ l.length then ⟨0, l.take n, l.drop n⟩ else ⟨10, [], []⟩
def num (k : Nat) (l : List UInt8) : Got Nat := if k ≤ l.length then ⟨0, un (l.take k), l.drop k⟩ else ⟨10, 0, []⟩
def vd : Nat → List UInt8 → Got Nat
  | _, [] => ⟨10, 0, []⟩
  | i, b :: r =>
    if i = 9 ∧ 1 < b.toNat then ⟨3, 0, []⟩
    else if 0 < i ∧ b.toNat = 0 then ⟨4, 0, []⟩
    else if b.toNat < 128 then ⟨0, b.toNat, r⟩
    else if (vd (i + 1) r).err = 0 then ⟨0, b.toNat % 128 + 128 * (vd (i + 1) r).val, (vd (i + 1) r).rest⟩
    else ⟨(vd (i + 1) r).err, 0, []⟩
def txd (l : List UInt8) : Got (List UInt8) := if (vd 0 l).err = 0 then tk (vd 0 l).val (vd 0 l).rest else ⟨(vd 0 l).err, [], []⟩
/-- The error behind an error. -/
def fin (e c : Int) : Int := if e = 0 then c else e

theorem fin_zero (e : Int) : fin e 0 = e := by unfold fin; split <;> omega
theorem fin_fin (e c d : Int) : fin (fin e c) d = fin e (fin c d) := by unfold fin; (repeat' split) <;> omega
theorem fin_of (c : Int) : fin 0 c = c := by simp [fin]

theorem tk_err {n : Nat} {l : List UInt8} (h : (tk n l).err ≠ 0) : (tk n l).rest = [] := by
  unfold tk at h ⊢; split <;> simp_all
theorem num_err {n : Nat} {l : List UInt8} (h : (num n l).err ≠ 0) : (num n l).rest = [] ∧ (num n l).val = 0 := by
  unfold num at h ⊢; split <;> simp_all
theorem vd_err : ∀ {l : List UInt8} {i : Nat}, (vd i l).err ≠ 0 → (vd i l).rest = [] ∧ (vd i l).val = 0
  | [], i, _ => by simp [vd]
  | b :: r, i, h => by
    unfold vd at h ⊢
    (repeat' split) <;> simp_all
theorem tk_len (n : Nat) (l : List UInt8) : (tk n l).rest.length ≤ l.length ∧ (tk n l).val.length ≤ l.length := by
  unfold tk; split <;> simp [Nat.min_le_right]
theorem num_len (n : Nat) (l : List UInt8) : (num n l).rest.length ≤ l.length := by
  unfold num; split <;> simp
theorem vd_len : ∀ (l : List UInt8) (i : Nat), (vd i l).rest.length ≤ l.length
  | [], i => by simp [vd]
  | b :: r, i => by
    have := vd_len r (i + 1)
    unfold vd
    (repeat' split) <;> simp <;> omega
theorem un_lt : ∀ (l : List UInt8), un l < 256 ^ l.length
  | [] => by simp [un]
  | b :: r => by
    have := un_lt r
    have hb := b.toNat_lt
    simp only [un, List.length_cons, Nat.pow_succ]
    omega
theorem un_append : ∀ (a b : List UInt8), un (a ++ b) = un a + 256 ^ a.length * un b
  | [], b => by simp [un]
  | x :: a, b => by
    simp only [List.cons_append, un, un_append a b, List.length_cons, Nat.pow_succ]
    rw [Nat.mul_add, Nat.mul_comm (256 ^ a.length) 256, Nat.mul_assoc]
    omega
theorem un_le : ∀ (k n : Nat), un (le k n) = n % 256 ^ k
  | 0, n => by simp [un, le, Nat.mod_one]
  | k + 1, n => by
    have h : (UInt8.ofNat (n % 256)).toNat = n % 256 := by simp
    simp only [le, un, un_le k, h, Nat.pow_succ]
    rw [Nat.mul_comm (256 ^ k) 256, Nat.mod_mul]
theorem le_length : ∀ (k n : Nat), (le k n).length = k
  | 0, _ => rfl
  | k + 1, n => by simp [le, le_length k]
theorem le_un : ∀ (l : List UInt8), le l.length (un l) = l
  | [] => rfl
  | b :: r => by
    have hb := b.toNat_lt
    simp only [List.length_cons, le, un]
    rw [show (b.toNat + 256 * un r) / 256 = un r from by omega, le_un r, show (b.toNat + 256 * un r) % 256 = b.toNat from by omega]
    simp
theorem vrF_pos (f n : Nat) : 0 < (vrF f n).length := by
  cases f <;> unfold vrF <;> (try split) <;> simp
theorem vrF_len : ∀ (f n : Nat), (vrF f n).length ≤ f + 1
  | 0, n => by simp [vrF]
  | f + 1, n => by
    have := vrF_len f (n / 128)
    unfold vrF
    split <;> simp <;> omega
theorem vr_len (n : Nat) : 0 < (vr n).length ∧ (vr n).length ≤ 10 := ⟨vrF_pos 9 n, vrF_len 9 n⟩

/-- What is written is read. -/
theorem vd_vrF : ∀ (f i n : Nat) (more : List UInt8), i + f = 9 → n < 2 ^ (64 - 7 * i) → (0 < i → 0 < n) → vd i (vrF f n ++ more) = ⟨0, n, more⟩
  | 0, i, n, more, hi, hn, h0 => by
    have hi9 : i = 9 := by omega
    subst hi9
    have hn2 : n < 2 := by simpa using hn
    have ht : (UInt8.ofNat n).toNat = n := by simp; omega
    have := h0 (by omega)
    have h1 : n = 1 := by omega
    subst h1
    simp [vrF, vd]
  | f + 1, i, n, more, hi, hn, h0 => by
    unfold vrF
    by_cases h : n < 128
    · rw [if_pos h]
      have ht : (UInt8.ofNat n).toNat = n := by simp; omega
      simp only [List.cons_append, List.nil_append, vd, ht]
      rw [if_neg (by omega), if_neg (by omega), if_pos h]
    · rw [if_neg h]
      have ht : (UInt8.ofNat (n % 128 + 128)).toNat = n % 128 + 128 := by simp; omega
      have hp : 2 ^ (64 - 7 * i) = 2 ^ (64 - 7 * (i + 1)) * 128 := by
        rw [show 64 - 7 * i = (64 - 7 * (i + 1)) + 7 from by omega, Nat.pow_add]
      have hn' : n / 128 < 2 ^ (64 - 7 * (i + 1)) := by
        rw [hp] at hn
        exact Nat.div_lt_of_lt_mul (by rw [Nat.mul_comm]; exact hn)
      have ih := vd_vrF f (i + 1) (n / 128) more (by omega) hn' (by omega)
      simp only [List.cons_append, vd, ht, ih]
      rw [if_neg (by omega), if_neg (by omega), if_neg (by omega)]
      simp
      omega
theorem vd_vr (n : Nat) (more : List UInt8) (hn : n < 18446744073709551616) : vd 0 (vr n ++ more) = ⟨0, n, more⟩ :=
  vd_vrF 9 0 n more rfl (by simpa using hn) (by omega)
/-- A proper beginning of a var lacks bytes. -/
theorem vd_vrF_cut : ∀ (f i n : Nat) (p s : List UInt8), vrF f n = p ++ s → s ≠ [] → i + f ≤ 9 → vd i p = ⟨10, 0, []⟩
  | 0, i, n, p, s, he, hs, hi => by
    unfold vrF at he
    cases p with
    | nil => simp [vd]
    | cons b p => simp at he; exact absurd he.2.2 hs
  | f + 1, i, n, p, s, he, hs, hi => by
    unfold vrF at he
    by_cases h : n < 128
    · rw [if_pos h] at he
      cases p with
      | nil => simp [vd]
      | cons b p => simp at he; exact absurd he.2.2 hs
    · rw [if_neg h] at he
      cases p with
      | nil => simp [vd]
      | cons b p =>
        simp only [List.cons_append, List.cons.injEq] at he
        obtain ⟨rfl, he⟩ := he
        have ht : (UInt8.ofNat (n % 128 + 128)).toNat = n % 128 + 128 := by simp; omega
        have ih := vd_vrF_cut f (i + 1) (n / 128) p s he hs (by omega)
        simp only [vd, ht, ih]
        rw [if_neg (by omega), if_neg (by omega), if_neg (by omega), if_neg (by omega)]
/-- What was read is what it is written as. -/
theorem vrF_vd : ∀ (f i : Nat) (l : List UInt8), i + f = 9 → (vd i l).err = 0 → l = vrF f (vd i l).val ++ (vd i l).rest ∧ (0 < i → 0 < (vd i l).val) ∧ (vd i l).val < 2 ^ (64 - 7 * i)
  | f, i, [], hi, h => by simp [vd] at h
  | 0, i, b :: r, hi, h => by
    have hi9 : i = 9 := by omega
    subst hi9
    unfold vd at h ⊢
    by_cases h1 : (9 = 9 ∧ 1 < b.toNat)
    · rw [if_pos h1] at h; simp at h
    · rw [if_neg h1] at h ⊢
      by_cases h2 : (0 < 9 ∧ b.toNat = 0)
      · rw [if_pos h2] at h; simp at h
      · rw [if_neg h2] at h ⊢
        rw [if_pos (by omega)]
        simp [vrF]
        omega
  | f + 1, i, b :: r, hi, h => by
    have hb := b.toNat_lt
    unfold vd at h ⊢
    by_cases h1 : (i = 9 ∧ 1 < b.toNat)
    · rw [if_pos h1] at h; simp at h
    · rw [if_neg h1] at h ⊢
      by_cases h2 : (0 < i ∧ b.toNat = 0)
      · rw [if_pos h2] at h; simp at h
      · rw [if_neg h2] at h ⊢
        by_cases h3 : b.toNat < 128
        · rw [if_pos h3]
          have hp : 2 ^ 7 ≤ 2 ^ (64 - 7 * i) := Nat.pow_le_pow_right (by omega) (by omega)
          refine ⟨by simp [vrF, h3], fun hi0 => ?_, Nat.lt_of_lt_of_le (show b.toNat < 2 ^ 7 from by simpa using h3) hp⟩
          show 0 < b.toNat
          omega
        · rw [if_neg h3] at h ⊢
          by_cases h4 : (vd (i + 1) r).err = 0
          · rw [if_pos h4]
            obtain ⟨e1, e2, e3⟩ := vrF_vd f (i + 1) r (by omega) h4
            have hp : 2 ^ (64 - 7 * i) = 2 ^ (64 - 7 * (i + 1)) * 128 := by
              rw [show 64 - 7 * i = (64 - 7 * (i + 1)) + 7 from by omega, Nat.pow_add]
            have hv := e2 (by omega)
            refine ⟨?_, fun _ => by show 0 < b.toNat % 128 + 128 * _; omega, by show b.toNat % 128 + 128 * _ < _; rw [hp]; omega⟩
            show b :: r = vrF (f + 1) (b.toNat % 128 + 128 * (vd (i + 1) r).val) ++ (vd (i + 1) r).rest
            unfold vrF
            rw [if_neg (by omega), show (b.toNat % 128 + 128 * (vd (i + 1) r).val) / 128 = (vd (i + 1) r).val from by omega, List.cons_append, ← e1,
              show (b.toNat % 128 + 128 * (vd (i + 1) r).val) % 128 + 128 = b.toNat from by omega]
            simp
          · rw [if_neg h4] at h
            exact absurd h h4
theorem vr_vd (l : List UInt8) (h : (vd 0 l).err = 0) : l = vr (vd 0 l).val ++ (vd 0 l).rest ∧ (vd 0 l).val < 18446744073709551616 := by
  obtain ⟨a, _, c⟩ := vrF_vd 9 0 l rfl h
  exact ⟨a, by simpa using c⟩
theorem u64_id (n : Int) (h : 0 ≤ n) (h2 : n < 18446744073709551616) : IntKind.u64.wrap n = n := by
  simp [IntKind.wrap, IntKind.bits, IntKind.signed]; omega
/-- A number's next group is laid over those ahead of it. -/
theorem or_sh (a b s : Nat) (hs64 : s < 64) (ha : a < 2 ^ s) (hb : b * 2 ^ s < 18446744073709551616) : bits .or .u64 (a : Int) (IntKind.u64.wrap (IntKind.u64.wrap (b : Int) * 2 ^ s)) = ((a + 2 ^ s * b : Nat) : Int) := by
  have hp : 0 < 2 ^ s := Nat.two_pow_pos s
  have hb1 : b ≤ b * 2 ^ s := Nat.le_mul_of_pos_right b hp
  have hs : 2 ^ s ≤ 2 ^ 63 := Nat.pow_le_pow_right (by omega) (by omega)
  have e1 : IntKind.u64.wrap (b : Int) = b := u64_id _ (by omega) (by omega)
  have e2 : ((b : Int) * 2 ^ s) = ((b * 2 ^ s : Nat) : Int) := by push_cast; rfl
  rw [e1, e2, u64_id _ (by omega) (by omega)]
  rw [u64_or_nat _ _ (by omega) hb, Nat.or_comm, nat_join s _ _ (Nat.mul_mod_left _ _) ha, Nat.mul_comm b]
  congr 1
  omega
theorem un_step (x : List UInt8) (k : Nat) (hk : k < x.length) (h8 : x.length ≤ 8) :
    bits .or .u64 (un (x.take k) : Int) (IntKind.u64.wrap (IntKind.u64.wrap ((x[k]'hk).toNat : Int) * 2 ^ (8 * k))) = (un (x.take (k + 1)) : Int) := by
  have h1 := un_lt (x.take k)
  have hb := (x[k]'hk).toNat_lt
  have hp : 256 ^ k = 2 ^ (8 * k) := by rw [show (256 : Nat) = 2 ^ 8 from rfl, ← Nat.pow_mul]
  have hp2 : 2 ^ (8 * k) ≤ 2 ^ 56 := Nat.pow_le_pow_right (by omega) (by omega)
  rw [List.length_take, Nat.min_eq_left (by omega), hp] at h1
  rw [or_sh _ _ _ (by omega) h1 (Nat.lt_of_le_of_lt (Nat.mul_le_mul (Nat.le_of_lt_succ hb) hp2) (by decide))]
  congr 1
  rw [List.take_succ_eq_append_getElem hk, un_append, List.length_take, Nat.min_eq_left (by omega), hp]
  simp [un]
theorem un_take_lt (x : List UInt8) (k : Nat) : un (x.take k) < 256 ^ x.length := by
  refine Nat.lt_of_lt_of_le (un_lt _) (Nat.pow_le_pow_right (by omega) ?_)
  rw [List.length_take]; omega
/-- What is wrong with byte b at place i of a var. -/
def vf (i b : Nat) : Int := if i = 9 ∧ 1 < b then 3 else if 0 < i ∧ b = 0 then 4 else 0
/-- A var of l is read up to byte i: n so far, li left. -/
def VdAt (l : List UInt8) (i n : Nat) (li : List UInt8) : Prop :=
  i ≤ 9 ∧ n < 2 ^ (7 * i) ∧ vd 0 l = (if (vd i li).err = 0 then ⟨0, n + 2 ^ (7 * i) * (vd i li).val, (vd i li).rest⟩ else ⟨(vd i li).err, 0, []⟩)
theorem vdAt_start (l : List UInt8) : VdAt l 0 0 l := by
  refine ⟨by omega, by simp, ?_⟩
  split
  · rename_i h; cases hv : vd 0 l; simp_all
  · rename_i h
    obtain ⟨h1, h2⟩ := vd_err h
    cases hv : vd 0 l; simp_all
theorem vdAt_nil {l : List UInt8} {i n : Nat} (h : VdAt l i n []) : vd 0 l = ⟨10, 0, []⟩ := by
  rw [h.2.2]; simp [vd]
theorem vdAt_fault {l r : List UInt8} {i n : Nat} {b : UInt8} (h : VdAt l i n (b :: r)) (hc : vf i b.toNat ≠ 0) : vd 0 l = ⟨vf i b.toNat, 0, []⟩ := by
  rw [h.2.2]
  unfold vf at hc ⊢
  unfold vd
  (repeat' split) <;> simp_all
theorem vdAt_last {l r : List UInt8} {i n : Nat} {b : UInt8} (h : VdAt l i n (b :: r)) (hc : vf i b.toNat = 0) (hb : b.toNat < 128) : vd 0 l = ⟨0, n + 2 ^ (7 * i) * b.toNat, r⟩ := by
  rw [h.2.2]
  unfold vf at hc
  unfold vd
  split at hc
  · omega
  · rename_i h1
    split at hc
    · omega
    · rename_i h2
      rw [if_neg h1, if_neg h2, if_pos hb]
      simp
theorem vdAt_next {l r : List UInt8} {i n : Nat} {b : UInt8} (h : VdAt l i n (b :: r)) (hc : vf i b.toNat = 0) (hb : 128 ≤ b.toNat) : VdAt l (i + 1) (n + 2 ^ (7 * i) * (b.toNat % 128)) r := by
  obtain ⟨hi, hn, he⟩ := h
  have hp : 2 ^ (7 * (i + 1)) = 2 ^ (7 * i) * 128 := by rw [show 7 * (i + 1) = 7 * i + 7 from by omega, Nat.pow_add]
  unfold vf at hc
  split at hc
  · omega
  · rename_i h1
    split at hc
    · omega
    · rename_i h2
      refine ⟨by omega, ?_, ?_⟩
      · rw [hp]
        have h7 : b.toNat % 128 ≤ 127 := by omega
        have := Nat.mul_le_mul_left (2 ^ (7 * i)) h7
        omega
      · have hv : vd i (b :: r) = if (vd (i + 1) r).err = 0 then ⟨0, b.toNat % 128 + 128 * (vd (i + 1) r).val, (vd (i + 1) r).rest⟩ else ⟨(vd (i + 1) r).err, 0, []⟩ := by
          rw [vd, if_neg h1, if_neg h2, if_neg (by omega)]
        rw [he, hv]
        generalize vd (i + 1) r = T
        by_cases h4 : T.err = 0
        · rw [if_pos h4, if_pos rfl, if_pos h4, hp]
          congr 1
          show n + 2 ^ (7 * i) * (b.toNat % 128 + 128 * T.val) = n + 2 ^ (7 * i) * (b.toNat % 128) + 2 ^ (7 * i) * 128 * T.val
          rw [Nat.mul_add, Nat.mul_assoc]
          omega
        · rw [if_neg h4, if_neg h4, if_neg h4]
theorem var_step (i n b : Nat) (hi : i ≤ 9) (hn : n < 2 ^ (7 * i)) (hb : b < 256) (hc : vf i b = 0) (h128 : i = 9 → b < 128) :
    bits .or .u64 (n : Int) (IntKind.u64.wrap (IntKind.u64.wrap (bits .andNot .u8 (b : Int) 128) * 2 ^ (7 * i))) = ((n + 2 ^ (7 * i) * (b % 128) : Nat) : Int) := by
  have e1 : bits .andNot .u8 (b : Int) 128 = ((b % 128 : Nat) : Int) := by
    have := u8_andNot_nat b 128 hb (by decide)
    rw [nat_mask7] at this
    exact this
  rw [e1]
  refine or_sh n (b % 128) (7 * i) (by omega) hn ?_
  by_cases h9 : i = 9
  · subst h9
    have : b ≤ 1 := by
      unfold vf at hc
      split at hc
      · omega
      · omega
    have h2 : b % 128 ≤ 1 := by omega
    exact Nat.lt_of_le_of_lt (Nat.mul_le_mul_right _ h2) (by decide)
  · have h7 : b % 128 ≤ 127 := by omega
    have hp2 : 2 ^ (7 * i) ≤ 2 ^ 56 := Nat.pow_le_pow_right (by omega) (by omega)
    exact Nat.lt_of_le_of_lt (Nat.mul_le_mul h7 hp2) (by decide)
theorem var_lt {n b i : Nat} (hi : i ≤ 9) (hn : n < 2 ^ (7 * i)) (hb : b < 256) (hc : vf i b = 0) : n + 2 ^ (7 * i) * (b % 128) < 18446744073709551616 := by
  by_cases h9 : i = 9
  · subst h9
    have : b ≤ 1 := by
      unfold vf at hc
      split at hc
      · omega
      · omega
    have h2 : b % 128 ≤ 1 := by omega
    have := Nat.mul_le_mul_left (2 ^ (7 * 9)) h2
    have h3 : 2 ^ (7 * 9) = 9223372036854775808 := by decide
    omega
  · have h7 : b % 128 ≤ 127 := by omega
    have hp2 : 2 ^ (7 * i) ≤ 2 ^ 56 := Nat.pow_le_pow_right (by omega) (by omega)
    have := Nat.mul_le_mul hp2 h7
    have h3 : 2 ^ 56 * 127 + 2 ^ 56 < 18446744073709551616 := by decide
    omega
end Go.Proofs.YtacgmadgkmcmoaaGreatDoor
/- The functions of package codec that read, as the walk of the program's text gives them: one contract each. Conditions: the reader lies at a block of its own, and what is left is of 2^40 bytes at most. -/
namespace Go.Proofs.YtacgmadgkmcmoaaGreatDoor
open Go.RowKit
set_option linter.unusedVariables false

set_option maxRecDepth 100000 in
theorem len64_8 (w : World) : Calls Tryz.prog 199 #[.int .u64 255] w fun e w' => e = .returned (.int .i64 8) ∧ w = w' := by
  go_enter Tryz.func199, Tryz.ntmps199
  go_wp2
  go_ret
  exact ⟨by kernel_rfl, rfl⟩
theorem width8 (w : World) : Calls Tryz.prog 222 #[] w fun e w' => e = .returned (.int .i64 1) ∧ w = w' := by
  go_enter Tryz.func222, Tryz.ntmps222
  go_wp2_with fail
  refine (len64_8 _).mono ?_
  rintro e w' ⟨rfl, rfl⟩
  go_wp2
  go_ret
  exact ⟨rfl, rfl⟩
set_option maxRecDepth 100000 in
theorem len64_16 (w : World) : Calls Tryz.prog 199 #[.int .u64 65535] w fun e w' => e = .returned (.int .i64 16) ∧ w = w' := by
  go_enter Tryz.func199, Tryz.ntmps199
  go_wp2
  go_ret
  exact ⟨by kernel_rfl, rfl⟩
theorem width16 (w : World) : Calls Tryz.prog 200 #[] w fun e w' => e = .returned (.int .i64 2) ∧ w = w' := by
  go_enter Tryz.func200, Tryz.ntmps200
  go_wp2_with fail
  refine (len64_16 _).mono ?_
  rintro e w' ⟨rfl, rfl⟩
  go_wp2
  go_ret
  exact ⟨rfl, rfl⟩
set_option maxRecDepth 100000 in
theorem len64_32 (w : World) : Calls Tryz.prog 199 #[.int .u64 4294967295] w fun e w' => e = .returned (.int .i64 32) ∧ w = w' := by
  go_enter Tryz.func199, Tryz.ntmps199
  go_wp2
  go_ret
  exact ⟨by kernel_rfl, rfl⟩
theorem width32 (w : World) : Calls Tryz.prog 201 #[] w fun e w' => e = .returned (.int .i64 4) ∧ w = w' := by
  go_enter Tryz.func201, Tryz.ntmps201
  go_wp2_with fail
  refine (len64_32 _).mono ?_
  rintro e w' ⟨rfl, rfl⟩
  go_wp2
  go_ret
  exact ⟨rfl, rfl⟩
set_option maxRecDepth 100000 in
theorem len64_64 (w : World) : Calls Tryz.prog 199 #[.int .u64 18446744073709551615] w fun e w' => e = .returned (.int .i64 64) ∧ w = w' := by
  go_enter Tryz.func199, Tryz.ntmps199
  go_wp2
  go_ret
  exact ⟨by kernel_rfl, rfl⟩
theorem width64 (w : World) : Calls Tryz.prog 176 #[] w fun e w' => e = .returned (.int .i64 8) ∧ w = w' := by
  go_enter Tryz.func176, Tryz.ntmps176
  go_wp2_with fail
  refine (len64_64 _).mono ?_
  rintro e w' ⟨rfl, rfl⟩
  go_wp2
  go_ret
  exact ⟨rfl, rfl⟩

/-- The reader's block: what is left, and the first error. -/
def Rd (w : World) (g : Nat) (l : List UInt8) (e : Int) : Prop := Cells w g 215 #[.string (str l), .int .i64 e] ∧ (e ≠ 0 → l = []) ∧ l.length ≤ 1099511627776
def RdTo (w : World) (g : Nat) (l : List UInt8) (e : Int) (w' : World) : Prop := Rd w' g l e ∧ w.grownBy w' (some g)
theorem rd_c0 {w : World} {g : Nat} {l : List UInt8} {e : Int} (h : Rd w g l e) : w.cell? ⟨g, 0, none⟩ = some (.string (str l)) := by rw [h.1.cell]; rfl
theorem rd_c1 {w : World} {g : Nat} {l : List UInt8} {e : Int} (h : Rd w g l e) : w.cell? ⟨g, 1, none⟩ = some (.int .i64 e) := by rw [h.1.cell]; rfl
theorem rd_f {w : World} {g : Nat} {l : List UInt8} {e : Int} (h : Rd w g l e) (i : Nat) : w.frozen? ⟨g, i, none⟩ = false := h.1.frozen i
theorem rd_len {w : World} {g : Nat} {l : List UInt8} {e : Int} (h : Rd w g l e) : l.length ≤ 1099511627776 := h.2.2
theorem rd_to {w : World} {g : Nat} {l : List UInt8} {e : Int} (h : Rd w g l e) : RdTo w g l e w := ⟨h, grown_refl w _⟩
theorem rdTo_trans {w w1 w2 : World} {g : Nat} {l l2 : List UInt8} {e e2 : Int} (h : RdTo w g l e w1) (k : RdTo w1 g l2 e2 w2) : RdTo w g l2 e2 w2 := ⟨k.1, h.2.trans k.2⟩

theorem drop_c (g : Nat) (s : ByteArray) (e : Int) (w : World) (hc : w.cell? ⟨g, 0, none⟩ = some (.string s)) (hf : w.frozen? ⟨g, 0, none⟩ = false) :
    Calls Tryz.prog 220 #[.pointer (some ⟨g, 0, none⟩)] w fun E w' => E = .returned (.tuple #[]) ∧ w.setCell ⟨g, 0, none⟩ (.string (str [])) = w' := by
  go_enter Tryz.func220, Tryz.ntmps220
  go_wp2
  go_end0
  exact ⟨rfl, rfl⟩

theorem fail_c (g : Nat) (l : List UInt8) (e c : Int) (w : World) (h : Rd w g l e) :
    Calls Tryz.prog 197 #[.pointer (some ⟨g, 0, none⟩), .int .i64 c] w fun E w' => E = .returned (.tuple #[]) ∧ RdTo w g [] (fin e c) w' := by
  have c0 := rd_c0 h
  have c1 := rd_c1 h
  have f0 := rd_f h 0
  have f1 := rd_f h 1
  by_cases he : e = 0
  · have hb : (e == 0) = true := beq_iff_eq.2 he
    have HE := Lib.hid he
    clear he
    go_enter Tryz.func197, Tryz.ntmps197
    go_wp2_with fail
    refine (drop_c g (str l) e _ (by go_simp) (by go_simp)).mono ?_
    rintro E w' ⟨rfl, rfl⟩
    go_wp2
    go_end0
    refine ⟨rfl, ⟨?_, fun _ => rfl, by simp⟩, (grown_set w g 1 _).trans (grown_set _ g 0 _)⟩
    have := (h.1.set 1 (.int .i64 c)).set 0 (.string (str []))
    simpa [fin, HE.out] using this
  · have hb : (e == 0) = false := beq_eq_false_iff_ne.2 he
    have HE := Lib.hid he
    clear he
    go_enter Tryz.func197, Tryz.ntmps197
    go_wp2_with fail
    refine (drop_c g (str l) e _ (by go_simp) (by go_simp)).mono ?_
    rintro E w' ⟨rfl, rfl⟩
    go_wp2
    go_end0
    refine ⟨rfl, ⟨?_, fun _ => rfl, by simp⟩, grown_set w g 0 _⟩
    have := h.1.set 0 (.string (str []))
    simpa [fin, HE.out] using this

theorem cut_yes (g n : Nat) (l : List UInt8) (e : Int) (w : World) (h : Rd w g l e) (hn : n ≤ l.length) :
    Calls Tryz.prog 218 #[.pointer (some ⟨g, 0, none⟩), .int .u64 n] w fun E w' => E = .returned (.tuple #[.string (str (l.take n)), .bool true]) ∧ w.setCell ⟨g, 0, none⟩ (.string (str (l.drop n))) = w' := by
  have c0 := rd_c0 h
  have f0 := rd_f h 0
  have hl := rd_len h
  have hs := str_size l
  rw [← str_cut l n, ← str_rest l n]
  go_enter Tryz.func218, Tryz.ntmps218
  go_wp2
  go_ret2
  exact ⟨rfl, rfl⟩
theorem cut_no (g n : Nat) (l : List UInt8) (e : Int) (w : World) (h : Rd w g l e) (hn : l.length < n) :
    Calls Tryz.prog 218 #[.pointer (some ⟨g, 0, none⟩), .int .u64 n] w fun E w' => E = .returned (.tuple #[.string (str []), .bool false]) ∧ w = w' := by
  have c0 := rd_c0 h
  have f0 := rd_f h 0
  have hl := rd_len h
  have hs := str_size l
  go_enter Tryz.func218, Tryz.ntmps218
  go_wp2
  go_ret2
  exact ⟨rfl, rfl⟩

theorem take_c (g n : Nat) (l : List UInt8) (e : Int) (w : World) (h : Rd w g l e) :
    Calls Tryz.prog 193 #[.pointer (some ⟨g, 0, none⟩), .int .u64 n] w fun E w' => E = .returned (.string (str (tk n l).val)) ∧ RdTo w g (tk n l).rest (fin e (tk n l).err) w' := by
  unfold tk
  by_cases hn : n ≤ l.length
  · rw [if_pos hn]
    go_enter Tryz.func193, Tryz.ntmps193
    go_wp2_with fail
    refine (cut_yes g n l e _ h hn).mono ?_
    rintro E w' ⟨rfl, rfl⟩
    go_wp2
    go_ret
    refine ⟨rfl, ⟨?_, fun he => by have := h.2.1 (by simpa [fin_zero] using he); simp [this], by have := h.2.2; simp; omega⟩, grown_set w g 0 _⟩
    have := h.1.set 0 (.string (str (l.drop n)))
    simpa [fin_zero] using this
  · rw [if_neg hn]
    go_enter Tryz.func193, Tryz.ntmps193
    go_wp2_with fail
    refine (cut_no g n l e _ h (by omega)).mono ?_
    rintro E w' ⟨rfl, rfl⟩
    go_wp2_with fail
    refine (fail_c g l e 10 _ h).mono ?_
    rintro E w' ⟨rfl, hw⟩
    go_wp2
    go_ret
    exact ⟨rfl, hw⟩
theorem take_nil (n : Nat) (w : World) :
    Calls Tryz.prog 193 #[.pointer none, .int .u64 n] w fun E w' => E = .returned (.string (str [])) ∧ w = w' := by
  go_enter Tryz.func193, Tryz.ntmps193
  go_wp2
  go_ret
  exact ⟨rfl, rfl⟩
end Go.Proofs.YtacgmadgkmcmoaaGreatDoor
/- The functions of package codec that read numbers, vars and texts: one contract each. -/
namespace Go.Proofs.YtacgmadgkmcmoaaGreatDoor
open Go.RowKit
set_option linter.unusedVariables false

theorem rd_bytes (w1 W : World) (x : List UInt8) (e : TypeId) (hW : Lib.bytesWorld w1 e (str x) = W) : ∀ k (hk : k < x.length), W.cell? ⟨w1.heap.size, k, none⟩ = some (.int .u8 (x[k]'hk).toNat) := fun k hk => by
  rw [← hW, Lib.bytesWorld_cell _ _ _ _ (by rw [str_size]; exact hk), str_data]
  simp [List.getD, List.getElem?_eq_getElem hk]
theorem grown_any {w w' : World} {r : Option Nat} (h : w.grownBy w' none) : w.grownBy w' r := ⟨h.os, h.tape, h.output, h.size, fun k hk _ => h.block k hk (by simp)⟩
theorem rdTo_on {w w1 w2 : World} {g : Nat} {l : List UInt8} {e : Int} (h : RdTo w g l e w1) (k : w1.grownBy w2 none) : RdTo w g l e w2 :=
  ⟨⟨h.1.1.grown k (by simp), h.1.2⟩, h.2.trans (grown_any k)⟩
theorem rd_on {w1 w2 : World} {g : Nat} {l : List UInt8} {e : Int} (h : Rd w1 g l e) (k : w1.grownBy w2 none) : Rd w2 g l e := ⟨h.1.grown k (by simp), h.2⟩
theorem tk_yes {n : Nat} {l : List UInt8} (h : n ≤ l.length) : tk n l = ⟨0, l.take n, l.drop n⟩ := by unfold tk; rw [if_pos h]
theorem tk_no {n : Nat} {l : List UInt8} (h : l.length < n) : tk n l = ⟨10, [], []⟩ := by unfold tk; rw [if_neg (by omega)]
theorem tk_zero (l : List UInt8) : tk 0 l = ⟨0, [], l⟩ := by simp [tk]
theorem num_tk (n : Nat) (l : List UInt8) : num n l = ⟨(tk n l).err, un (tk n l).val, (tk n l).rest⟩ := by
  unfold num tk; split <;> simp [un]
theorem tk_val_len (n : Nat) (l : List UInt8) : (tk n l).val.length ≤ n := by
  unfold tk; split
  · simp; omega
  · simp

set_option maxHeartbeats 400000 in
theorem next8 (g : Nat) (l : List UInt8) (e : Int) (w : World) (h : Rd w g l e) :
    Calls Tryz.prog 219 #[.pointer (some ⟨g, 0, none⟩)] w fun E w' => E = .returned (.int .u8 (num 1 l).val) ∧ RdTo w g (num 1 l).rest (fin e (num 1 l).err) w' := by
  rw [num_tk 1 l]
  have h8 := tk_val_len 1 l
  go_enter Tryz.func219, Tryz.ntmps219
  go_wp2_with fail
  refine (width8 _).mono ?_
  rintro E w' ⟨rfl, rfl⟩
  go_wp2_with fail
  refine (take_c g 1 l e _ h).mono ?_
  rintro E w1 ⟨rfl, hw1⟩
  generalize hxx : (tk 1 l).val = x at *
  have HXX := Lib.hid hxx
  clear hxx
  have hcv := Lib.run_convert_string_bytes (P := Tryz.prog) w1 9 71 5 (str x) Tryz.underlying9 Tryz.underlying71 Tryz.underlying5
  rw [str_size x] at hcv
  have HC := Lib.hid (rd_bytes w1 _ x 5 rfl)
  have hgr := grown_bytes w1 5 (str x) none
  have hsz : (str x).size = x.length := str_size x
  go_wp2
  generalize Lib.bytesWorld w1 5 (str x) = W at *
  generalize w1.heap.size = B at *
  generalize grownCap w1 x.length 0 5 = cap at *
  clear hcv hsz
  go_loop [3, 12] (fun n j => ∃ k : Nat, k ≤ x.length ∧ j = .int .i64 k ∧ n = .int .u64 (un (x.take k))) (fun _ j => x.length - (intOf j).toNat)
  case atStart => exact ⟨0, Nat.zero_le _, rfl, rfl⟩
  case round =>
    obtain ⟨k, hk, rfl, rfl⟩ := hrel
    by_cases hlt : k < x.length
    · have hck := HC.out k hlt
      have HU := Lib.hid (un_step x k hlt (by omega))
      go_wp2
      go_round
      case rel => exact ⟨k + 1, by omega, by go_num, by rw [HU.out]⟩
      case measure => simp [intOf]; omega
    · have hx : k = x.length := by omega
      have hun := un_take_lt x k
      have hu2 := Nat.pow_le_pow_right (n := 256) (by omega) h8
      have hu3 : un (x.take k) < 256 := Nat.lt_of_lt_of_le hun hu2
      clear hun hu2
      have HX := Lib.hid hx
      clear hx
      go_wp2
      go_ret
      exact ⟨by rw [HXX.out, HX.out, List.take_length]; rfl, rdTo_on hw1 hgr⟩

set_option maxHeartbeats 400000 in
theorem next16 (g : Nat) (l : List UInt8) (e : Int) (w : World) (h : Rd w g l e) :
    Calls Tryz.prog 198 #[.pointer (some ⟨g, 0, none⟩)] w fun E w' => E = .returned (.int .u16 (num 2 l).val) ∧ RdTo w g (num 2 l).rest (fin e (num 2 l).err) w' := by
  rw [num_tk 2 l]
  have h8 := tk_val_len 2 l
  go_enter Tryz.func198, Tryz.ntmps198
  go_wp2_with fail
  refine (width16 _).mono ?_
  rintro E w' ⟨rfl, rfl⟩
  go_wp2_with fail
  refine (take_c g 2 l e _ h).mono ?_
  rintro E w1 ⟨rfl, hw1⟩
  generalize hxx : (tk 2 l).val = x at *
  have HXX := Lib.hid hxx
  clear hxx
  have hcv := Lib.run_convert_string_bytes (P := Tryz.prog) w1 9 71 5 (str x) Tryz.underlying9 Tryz.underlying71 Tryz.underlying5
  rw [str_size x] at hcv
  have HC := Lib.hid (rd_bytes w1 _ x 5 rfl)
  have hgr := grown_bytes w1 5 (str x) none
  have hsz : (str x).size = x.length := str_size x
  go_wp2
  generalize Lib.bytesWorld w1 5 (str x) = W at *
  generalize w1.heap.size = B at *
  generalize grownCap w1 x.length 0 5 = cap at *
  clear hcv hsz
  go_loop [3, 12] (fun n j => ∃ k : Nat, k ≤ x.length ∧ j = .int .i64 k ∧ n = .int .u64 (un (x.take k))) (fun _ j => x.length - (intOf j).toNat)
  case atStart => exact ⟨0, Nat.zero_le _, rfl, rfl⟩
  case round =>
    obtain ⟨k, hk, rfl, rfl⟩ := hrel
    by_cases hlt : k < x.length
    · have hck := HC.out k hlt
      have HU := Lib.hid (un_step x k hlt (by omega))
      go_wp2
      go_round
      case rel => exact ⟨k + 1, by omega, by go_num, by rw [HU.out]⟩
      case measure => simp [intOf]; omega
    · have hx : k = x.length := by omega
      have hun := un_take_lt x k
      have hu2 := Nat.pow_le_pow_right (n := 256) (by omega) h8
      have hu3 : un (x.take k) < 65536 := Nat.lt_of_lt_of_le hun hu2
      clear hun hu2
      have HX := Lib.hid hx
      clear hx
      go_wp2
      go_ret
      exact ⟨by rw [HXX.out, HX.out, List.take_length]; rfl, rdTo_on hw1 hgr⟩

set_option maxHeartbeats 400000 in
theorem next32 (g : Nat) (l : List UInt8) (e : Int) (w : World) (h : Rd w g l e) :
    Calls Tryz.prog 217 #[.pointer (some ⟨g, 0, none⟩)] w fun E w' => E = .returned (.int .u32 (num 4 l).val) ∧ RdTo w g (num 4 l).rest (fin e (num 4 l).err) w' := by
  rw [num_tk 4 l]
  have h8 := tk_val_len 4 l
  go_enter Tryz.func217, Tryz.ntmps217
  go_wp2_with fail
  refine (width32 _).mono ?_
  rintro E w' ⟨rfl, rfl⟩
  go_wp2_with fail
  refine (take_c g 4 l e _ h).mono ?_
  rintro E w1 ⟨rfl, hw1⟩
  generalize hxx : (tk 4 l).val = x at *
  have HXX := Lib.hid hxx
  clear hxx
  have hcv := Lib.run_convert_string_bytes (P := Tryz.prog) w1 9 71 5 (str x) Tryz.underlying9 Tryz.underlying71 Tryz.underlying5
  rw [str_size x] at hcv
  have HC := Lib.hid (rd_bytes w1 _ x 5 rfl)
  have hgr := grown_bytes w1 5 (str x) none
  have hsz : (str x).size = x.length := str_size x
  go_wp2
  generalize Lib.bytesWorld w1 5 (str x) = W at *
  generalize w1.heap.size = B at *
  generalize grownCap w1 x.length 0 5 = cap at *
  clear hcv hsz
  go_loop [3, 12] (fun n j => ∃ k : Nat, k ≤ x.length ∧ j = .int .i64 k ∧ n = .int .u64 (un (x.take k))) (fun _ j => x.length - (intOf j).toNat)
  case atStart => exact ⟨0, Nat.zero_le _, rfl, rfl⟩
  case round =>
    obtain ⟨k, hk, rfl, rfl⟩ := hrel
    by_cases hlt : k < x.length
    · have hck := HC.out k hlt
      have HU := Lib.hid (un_step x k hlt (by omega))
      go_wp2
      go_round
      case rel => exact ⟨k + 1, by omega, by go_num, by rw [HU.out]⟩
      case measure => simp [intOf]; omega
    · have hx : k = x.length := by omega
      have hun := un_take_lt x k
      have hu2 := Nat.pow_le_pow_right (n := 256) (by omega) h8
      have hu3 : un (x.take k) < 4294967296 := Nat.lt_of_lt_of_le hun hu2
      clear hun hu2
      have HX := Lib.hid hx
      clear hx
      go_wp2
      go_ret
      exact ⟨by rw [HXX.out, HX.out, List.take_length]; rfl, rdTo_on hw1 hgr⟩

set_option maxHeartbeats 400000 in
theorem next64 (g : Nat) (l : List UInt8) (e : Int) (w : World) (h : Rd w g l e) :
    Calls Tryz.prog 165 #[.pointer (some ⟨g, 0, none⟩)] w fun E w' => E = .returned (.int .u64 (num 8 l).val) ∧ RdTo w g (num 8 l).rest (fin e (num 8 l).err) w' := by
  rw [num_tk 8 l]
  have h8 := tk_val_len 8 l
  go_enter Tryz.func165, Tryz.ntmps165
  go_wp2_with fail
  refine (width64 _).mono ?_
  rintro E w' ⟨rfl, rfl⟩
  go_wp2_with fail
  refine (take_c g 8 l e _ h).mono ?_
  rintro E w1 ⟨rfl, hw1⟩
  generalize hxx : (tk 8 l).val = x at *
  have HXX := Lib.hid hxx
  clear hxx
  have hcv := Lib.run_convert_string_bytes (P := Tryz.prog) w1 9 71 5 (str x) Tryz.underlying9 Tryz.underlying71 Tryz.underlying5
  rw [str_size x] at hcv
  have HC := Lib.hid (rd_bytes w1 _ x 5 rfl)
  have hgr := grown_bytes w1 5 (str x) none
  have hsz : (str x).size = x.length := str_size x
  go_wp2
  generalize Lib.bytesWorld w1 5 (str x) = W at *
  generalize w1.heap.size = B at *
  generalize grownCap w1 x.length 0 5 = cap at *
  clear hcv hsz
  go_loop [3, 12] (fun n j => ∃ k : Nat, k ≤ x.length ∧ j = .int .i64 k ∧ n = .int .u64 (un (x.take k))) (fun _ j => x.length - (intOf j).toNat)
  case atStart => exact ⟨0, Nat.zero_le _, rfl, rfl⟩
  case round =>
    obtain ⟨k, hk, rfl, rfl⟩ := hrel
    by_cases hlt : k < x.length
    · have hck := HC.out k hlt
      have HU := Lib.hid (un_step x k hlt (by omega))
      go_wp2
      go_round
      case rel => exact ⟨k + 1, by omega, by go_num, by rw [HU.out]⟩
      case measure => simp [intOf]; omega
    · have hx : k = x.length := by omega
      have hun := un_take_lt x k
      have hu2 := Nat.pow_le_pow_right (n := 256) (by omega) h8
      have hu3 : un (x.take k) < 18446744073709551616 := Nat.lt_of_lt_of_le hun hu2
      clear hun hu2
      have HX := Lib.hid hx
      clear hx
      go_wp2
      go_ret
      exact ⟨by rw [HXX.out, HX.out, List.take_length]; rfl, rdTo_on hw1 hgr⟩
end Go.Proofs.YtacgmadgkmcmoaaGreatDoor
/- The functions of package codec that read, at last: a number of each width, a var, a text; the error and the rest. -/
namespace Go.Proofs.YtacgmadgkmcmoaaGreatDoor
open Go.RowKit
set_option linter.unusedVariables false

theorem rdU8 (g : Nat) (l : List UInt8) (e : Int) (w : World) (h : Rd w g l e) :
    Calls Tryz.prog 195 #[.pointer (some ⟨g, 0, none⟩)] w fun E w' => E = .returned (.int .u8 (num 1 l).val) ∧ RdTo w g (num 1 l).rest (fin e (num 1 l).err) w' := by
  go_enter Tryz.func195, Tryz.ntmps195
  go_wp2_with fail
  refine (next8 g l e _ h).mono ?_
  rintro E w1 ⟨rfl, hw1⟩
  go_wp2
  go_ret
  exact ⟨rfl, hw1⟩
theorem rdU16 (g : Nat) (l : List UInt8) (e : Int) (w : World) (h : Rd w g l e) :
    Calls Tryz.prog 171 #[.pointer (some ⟨g, 0, none⟩)] w fun E w' => E = .returned (.int .u16 (num 2 l).val) ∧ RdTo w g (num 2 l).rest (fin e (num 2 l).err) w' := by
  go_enter Tryz.func171, Tryz.ntmps171
  go_wp2_with fail
  refine (next16 g l e _ h).mono ?_
  rintro E w1 ⟨rfl, hw1⟩
  go_wp2
  go_ret
  exact ⟨rfl, hw1⟩
theorem rdU32 (g : Nat) (l : List UInt8) (e : Int) (w : World) (h : Rd w g l e) :
    Calls Tryz.prog 192 #[.pointer (some ⟨g, 0, none⟩)] w fun E w' => E = .returned (.int .u32 (num 4 l).val) ∧ RdTo w g (num 4 l).rest (fin e (num 4 l).err) w' := by
  go_enter Tryz.func192, Tryz.ntmps192
  go_wp2_with fail
  refine (next32 g l e _ h).mono ?_
  rintro E w1 ⟨rfl, hw1⟩
  go_wp2
  go_ret
  exact ⟨rfl, hw1⟩
theorem rdU64 (g : Nat) (l : List UInt8) (e : Int) (w : World) (h : Rd w g l e) :
    Calls Tryz.prog 124 #[.pointer (some ⟨g, 0, none⟩)] w fun E w' => E = .returned (.int .u64 (num 8 l).val) ∧ RdTo w g (num 8 l).rest (fin e (num 8 l).err) w' := by
  go_enter Tryz.func124, Tryz.ntmps124
  go_wp2_with fail
  refine (next64 g l e _ h).mono ?_
  rintro E w1 ⟨rfl, hw1⟩
  go_wp2
  go_ret
  exact ⟨rfl, hw1⟩
theorem rdI32 (g : Nat) (l : List UInt8) (e : Int) (w : World) (h : Rd w g l e) :
    Calls Tryz.prog 194 #[.pointer (some ⟨g, 0, none⟩)] w fun E w' => E = .returned (.int .i32 (wrap32 (num 4 l).val)) ∧ RdTo w g (num 4 l).rest (fin e (num 4 l).err) w' := by
  go_enter Tryz.func194, Tryz.ntmps194
  go_wp2_with fail
  refine (next32 g l e _ h).mono ?_
  rintro E w1 ⟨rfl, hw1⟩
  go_wp2
  go_ret
  exact ⟨rfl, hw1⟩

theorem varFault_c (i b : Nat) (w : World) (hi : i ≤ 9) (hb : b < 256) :
    Calls Tryz.prog 196 #[.int .i64 i, .int .u8 b] w fun E w' => E = .returned (.int .i64 (vf i b)) ∧ w = w' := by
  by_cases h1 : i = 9
  · subst h1
    by_cases h2 : 1 < b
    · rw [show vf 9 b = 3 from by simp [vf, h2]]
      go_enter Tryz.func196, Tryz.ntmps196
      go_wp2
      go_ret
      exact ⟨rfl, rfl⟩
    · by_cases h3 : b = 0
      · subst h3
        rw [show vf 9 0 = 4 from by simp [vf]]
        go_enter Tryz.func196, Tryz.ntmps196
        go_wp2
        go_ret
        exact ⟨rfl, rfl⟩
      · rw [show vf 9 b = 0 from by simp [vf, h2, h3]]
        have h4 : ((b : Int) == 0) = false := by simp [h3]
        go_enter Tryz.func196, Tryz.ntmps196
        go_wp2
        go_ret
        exact ⟨rfl, rfl⟩
  · have h5 : ((i : Int) == 9) = false := by simp; omega
    by_cases h3 : b = 0
    · subst h3
      by_cases h0 : i = 0
      · subst h0
        rw [show vf 0 0 = 0 from by simp [vf]]
        go_enter Tryz.func196, Tryz.ntmps196
        go_wp2
        go_ret
        exact ⟨rfl, rfl⟩
      · rw [show vf i 0 = 4 from by simp [vf]; omega]
        have h6 : 0 < i := by omega
        go_enter Tryz.func196, Tryz.ntmps196
        go_wp2
        go_ret
        exact ⟨rfl, rfl⟩
    · rw [show vf i b = 0 from by simp [vf, h3, h1]]
      have h4 : ((b : Int) == 0) = false := by simp [h3]
      by_cases h0 : i = 0
      · subst h0
        go_enter Tryz.func196, Tryz.ntmps196
        go_wp2
        go_ret
        exact ⟨rfl, rfl⟩
      · have h6 : 0 < i := by omega
        go_enter Tryz.func196, Tryz.ntmps196
        go_wp2
        go_ret
        exact ⟨rfl, rfl⟩

theorem rdU8_nil (g : Nat) (e : Int) (w : World) (h : Rd w g [] e) :
    Calls Tryz.prog 195 #[.pointer (some ⟨g, 0, none⟩)] w fun E w' => E = .returned (.int .u8 0) ∧ RdTo w g [] (fin e 10) w' := rdU8 g [] e w h
theorem rdU8_cons (g : Nat) (b : UInt8) (r : List UInt8) (e : Int) (w : World) (h : Rd w g (b :: r) e) :
    Calls Tryz.prog 195 #[.pointer (some ⟨g, 0, none⟩)] w fun E w' => E = .returned (.int .u8 b.toNat) ∧ RdTo w g r e w' := by
  have hn : num 1 (b :: r) = ⟨0, b.toNat, r⟩ := by simp [num, un]
  have := rdU8 g (b :: r) e w h
  rw [hn] at this
  simpa only [fin_zero] using this
/-- A round of Var, at its head. -/
def VarRel (w : World) (g : Nat) (l : List UInt8) (e : Int) (n j : Value) (wr : World) : Prop :=
  ∃ (i m : Nat) (li : List UInt8), j = .int .i64 i ∧ n = .int .u64 m ∧ VdAt l i m li ∧ RdTo w g li e wr
theorem bits_00 : bits .or .u64 0 (IntKind.u64.wrap (IntKind.u64.wrap (bits .andNot .u8 0 128) * 2 ^ 0)) = 0 := by decide +kernel
theorem fin_ten (e : Int) : fin (fin e 10) 4 = fin e 10 := by rw [fin_fin]; simp [show fin 10 4 = 10 from rfl]
theorem vf_00 : vf 0 0 = 0 := by simp [vf]
set_option maxHeartbeats 1000000 in
set_option maxRecDepth 20000 in
theorem rdVar (g : Nat) (l : List UInt8) (e : Int) (w : World) (h : Rd w g l e) :
    Calls Tryz.prog 168 #[.pointer (some ⟨g, 0, none⟩)] w fun E w' => E = .returned (.int .u64 (vd 0 l).val) ∧ RdTo w g (vd 0 l).rest (fin e (vd 0 l).err) w' := by
  go_enter Tryz.func168, Tryz.ntmps168
  go_wp2
  go_loopw [3, 4, 5, 6, 7] (fun n _ _ _ j wr => VarRel w g l e n j wr) (fun _ _ _ _ j _ => 10 - (intOf j).toNat)
  case atStart => exact ⟨0, 0, l, rfl, rfl, vdAt_start l, rd_to h⟩
  case round =>
    obtain ⟨i, m, li, rfl, rfl, hat, hto⟩ := hrel
    have hi9 := hat.1
    cases li with
    | nil =>
      have HV := Lib.hid (vdAt_nil hat)
      have HF := Lib.hid (fin_fin e 10 4)
      by_cases h0 : i = 0
      · have hm : m = 0 := by have := hat.2.1; rw [h0] at this; simp at this; exact this
        subst h0 hm
        clear hat
        have hb := bits_00
        have hv := vf_00
        go_wp2_with fail
        refine (rdU8_nil g e _ hto.1).mono ?_
        rintro E w1 ⟨rfl, hw1⟩
        have HW := Lib.hid (rdTo_trans hto hw1)
        clear hw1
        go_wp2_with fail
        refine (varFault_c 0 0 _ (by omega) (by omega)).mono ?_
        rintro E w' ⟨rfl, rfl⟩
        go_wp2
        go_ret
        exact ⟨by rw [HV.out]; rfl, by rw [HV.out]; exact HW.out⟩
      · have h6 : 0 < i := by omega
        have hv : vf i 0 = 4 := by simp [vf]; omega
        have HVF := Lib.hid hv
        clear hv
        go_wp2_with fail
        refine (rdU8_nil g e _ hto.1).mono ?_
        rintro E w1 ⟨rfl, hw1⟩
        have HW := Lib.hid (rdTo_trans hto hw1)
        have hr1 := hw1.1
        clear hw1
        go_wp2_with fail
        refine (varFault_c i 0 _ (by omega) (by omega)).mono ?_
        rintro E w' ⟨rfl, rfl⟩
        rw [HVF.out]
        go_wp2_with fail
        refine (fail_c g [] _ 4 _ hr1).mono ?_
        rintro E w2 ⟨rfl, hw2⟩
        rw [fin_ten] at hw2
        have HW2 := Lib.hid (rdTo_trans HW.out hw2)
        clear hw2
        go_wp2
        go_ret
        exact ⟨by rw [HV.out]; rfl, by rw [HV.out]; exact HW2.out⟩
    | cons b r =>
      have hbb := b.toNat_lt
      by_cases hc : vf i b.toNat = 0
      · have HL := Lib.hid (fun hb : b.toNat < 128 => vdAt_last hat hc hb)
        have HX := Lib.hid (fun hb : 128 ≤ b.toNat => vdAt_next hat hc hb)
        have h9 : i = 9 → b.toNat < 128 := fun h9 => by
          rw [h9] at hc
          unfold vf at hc
          split at hc
          · omega
          · omega

        have hst := var_step i m b.toNat hat.1 hat.2.1 hbb hc h9
        have HC := Lib.hid hc
        clear hc hat
        have H8 := Lib.hid (show 128 ≤ b.toNat → i < 9 from fun hb => by omega)
        clear h9
        generalize hm' : m + 2 ^ (7 * i) * (b.toNat % 128) = m' at *
        have HM := Lib.hid hm'
        clear hm'
        go_wp2_with fail
        refine (rdU8_cons g b r e _ hto.1).mono ?_
        rintro E w1 ⟨rfl, hw1⟩
        have HW := Lib.hid (rdTo_trans hto hw1)
        clear hw1
        go_wp2_with fail
        refine (varFault_c i b.toNat _ (by omega) (by omega)).mono ?_
        rintro E w' ⟨rfl, rfl⟩
        rw [HC.out]
        by_cases hb : b.toNat < 128
        · have HE := Lib.hid (HL.out hb)
          go_wp2
          go_ret
          have he : m' = (vd 0 l).val := by rw [HE.out, ← HM.out, Nat.mod_eq_of_lt hb]
          refine ⟨by rw [← he]; rfl, ?_⟩
          rw [HE.out, fin_zero]
          exact HW.out
        · have HE := Lib.hid (HX.out (by omega))
          have h8 : i < 9 := H8.out (by omega)
          go_wp2
          go_roundw
          case rel => exact ⟨i + 1, m', r, by go_num, rfl, HE.out, HW.out⟩
          case measure => simp [intOf]; omega
      · have HE := Lib.hid (vdAt_fault hat hc)
        have hne : (vf i b.toNat != 0) = true := by simp [hc]
        clear hc hat
        go_wp2_with fail
        refine (rdU8_cons g b r e _ hto.1).mono ?_
        rintro E w1 ⟨rfl, hw1⟩
        have HW := Lib.hid (rdTo_trans hto hw1)
        have hr1 := hw1.1
        clear hw1
        go_wp2_with fail
        refine (varFault_c i b.toNat _ (by omega) (by omega)).mono ?_
        rintro E w' ⟨rfl, rfl⟩
        go_wp2_with fail
        refine (fail_c g r _ (vf i b.toNat) _ hr1).mono ?_
        rintro E w2 ⟨rfl, hw2⟩
        have HW2 := Lib.hid (rdTo_trans HW.out hw2)
        clear hw2
        go_wp2
        go_ret
        exact ⟨by rw [HE.out]; rfl, by rw [HE.out]; exact HW2.out⟩
end Go.Proofs.YtacgmadgkmcmoaaGreatDoor
/- The functions of package codec that read: texts, the error, the rest, a new reader; readers that are none. -/
namespace Go.Proofs.YtacgmadgkmcmoaaGreatDoor
open Go.RowKit
set_option linter.unusedVariables false

theorem rdErr (g : Nat) (l : List UInt8) (e : Int) (w : World) (h : Rd w g l e) :
    Calls Tryz.prog 125 #[.pointer (some ⟨g, 0, none⟩)] w fun E w' => E = .returned (.int .i64 e) ∧ w = w' := by
  have c1 := rd_c1 h
  go_enter Tryz.func125, Tryz.ntmps125
  go_wp2
  go_ret
  exact ⟨rfl, rfl⟩
theorem rdRest (g : Nat) (l : List UInt8) (e : Int) (w : World) (h : Rd w g l e) :
    Calls Tryz.prog 127 #[.pointer (some ⟨g, 0, none⟩)] w fun E w' => E = .returned (.string (str l)) ∧ w = w' := by
  have c0 := rd_c0 h
  go_enter Tryz.func127, Tryz.ntmps127
  go_wp2
  go_ret
  exact ⟨rfl, rfl⟩
/-- A new reader: a block of its own. -/
def RdNew (l : List UInt8) (w : World) (E : Ending) (w' : World) : Prop :=
  E = .returned (.pointer (some ⟨w.heap.size, 0, none⟩)) ∧ Rd w' w.heap.size l 0 ∧ w.grownBy w' none ∧ w'.heap.size = w.heap.size + 1
theorem rdNew (l : List UInt8) (w : World) (hl : l.length ≤ 1099511627776) :
    Calls Tryz.prog 123 #[.string (str l)] w (RdNew l w) := by
  go_enter Tryz.func123, Tryz.ntmps123
  go_wp2
  go_ret
  refine ⟨rfl, ⟨Cells.made _ _ _, fun h => absurd rfl h, hl⟩, ⟨rfl, rfl, rfl, by simp, fun k hk _ => Below.heap_alloc _ _ _ hk⟩, by simp⟩


set_option maxHeartbeats 400000 in
theorem next8_nil (w : World) :
    Calls Tryz.prog 219 #[.pointer none] w fun E w' => E = .returned (.int .u8 0) ∧ w.grownBy w' none := by
  go_enter Tryz.func219, Tryz.ntmps219
  go_wp2_with fail
  refine (width8 _).mono ?_
  rintro E w' ⟨rfl, rfl⟩
  go_wp2_with fail
  refine (take_nil 1 _).mono ?_
  rintro E w1 ⟨rfl, rfl⟩
  have hcv := Lib.run_convert_string_bytes (P := Tryz.prog) w 9 71 5 (str []) Tryz.underlying9 Tryz.underlying71 Tryz.underlying5
  rw [str_size] at hcv
  have hgr := grown_bytes w 5 (str []) none
  have hsz : (str []).size = 0 := str_size []
  go_wp2
  generalize Lib.bytesWorld w 5 (str []) = W at *
  generalize w.heap.size = B at *
  clear hcv hsz
  go_loop [3, 12] (fun n j => j = .int .i64 0 ∧ n = .int .u64 0) (fun _ j => 0)
  case atStart => exact ⟨rfl, rfl⟩
  case round =>
    obtain ⟨rfl, rfl⟩ := hrel
    go_wp2
    go_ret
    exact ⟨rfl, hgr⟩
theorem rdU8_nil' (w : World) :
    Calls Tryz.prog 195 #[.pointer none] w fun E w' => E = .returned (.int .u8 0) ∧ w.grownBy w' none := by
  go_enter Tryz.func195, Tryz.ntmps195
  go_wp2_with fail
  refine (next8_nil _).mono ?_
  rintro E w1 ⟨rfl, hw1⟩
  go_wp2
  go_ret
  exact ⟨rfl, hw1⟩

set_option maxHeartbeats 400000 in
theorem next32_nil (w : World) :
    Calls Tryz.prog 217 #[.pointer none] w fun E w' => E = .returned (.int .u32 0) ∧ w.grownBy w' none := by
  go_enter Tryz.func217, Tryz.ntmps217
  go_wp2_with fail
  refine (width32 _).mono ?_
  rintro E w' ⟨rfl, rfl⟩
  go_wp2_with fail
  refine (take_nil 4 _).mono ?_
  rintro E w1 ⟨rfl, rfl⟩
  have hcv := Lib.run_convert_string_bytes (P := Tryz.prog) w 9 71 5 (str []) Tryz.underlying9 Tryz.underlying71 Tryz.underlying5
  rw [str_size] at hcv
  have hgr := grown_bytes w 5 (str []) none
  have hsz : (str []).size = 0 := str_size []
  go_wp2
  generalize Lib.bytesWorld w 5 (str []) = W at *
  generalize w.heap.size = B at *
  clear hcv hsz
  go_loop [3, 12] (fun n j => j = .int .i64 0 ∧ n = .int .u64 0) (fun _ j => 0)
  case atStart => exact ⟨rfl, rfl⟩
  case round =>
    obtain ⟨rfl, rfl⟩ := hrel
    go_wp2
    go_ret
    exact ⟨rfl, hgr⟩
theorem rdI32_nil' (w : World) :
    Calls Tryz.prog 194 #[.pointer none] w fun E w' => E = .returned (.int .i32 0) ∧ w.grownBy w' none := by
  go_enter Tryz.func194, Tryz.ntmps194
  go_wp2_with fail
  refine (next32_nil _).mono ?_
  rintro E w1 ⟨rfl, hw1⟩
  go_wp2
  go_ret
  exact ⟨rfl, hw1⟩

set_option maxHeartbeats 400000 in
theorem next64_nil (w : World) :
    Calls Tryz.prog 165 #[.pointer none] w fun E w' => E = .returned (.int .u64 0) ∧ w.grownBy w' none := by
  go_enter Tryz.func165, Tryz.ntmps165
  go_wp2_with fail
  refine (width64 _).mono ?_
  rintro E w' ⟨rfl, rfl⟩
  go_wp2_with fail
  refine (take_nil 8 _).mono ?_
  rintro E w1 ⟨rfl, rfl⟩
  have hcv := Lib.run_convert_string_bytes (P := Tryz.prog) w 9 71 5 (str []) Tryz.underlying9 Tryz.underlying71 Tryz.underlying5
  rw [str_size] at hcv
  have hgr := grown_bytes w 5 (str []) none
  have hsz : (str []).size = 0 := str_size []
  go_wp2
  generalize Lib.bytesWorld w 5 (str []) = W at *
  generalize w.heap.size = B at *
  clear hcv hsz
  go_loop [3, 12] (fun n j => j = .int .i64 0 ∧ n = .int .u64 0) (fun _ j => 0)
  case atStart => exact ⟨rfl, rfl⟩
  case round =>
    obtain ⟨rfl, rfl⟩ := hrel
    go_wp2
    go_ret
    exact ⟨rfl, hgr⟩
theorem rdU64_nil' (w : World) :
    Calls Tryz.prog 124 #[.pointer none] w fun E w' => E = .returned (.int .u64 0) ∧ w.grownBy w' none := by
  go_enter Tryz.func124, Tryz.ntmps124
  go_wp2_with fail
  refine (next64_nil _).mono ?_
  rintro E w1 ⟨rfl, hw1⟩
  go_wp2
  go_ret
  exact ⟨rfl, hw1⟩

set_option maxHeartbeats 1000000 in
set_option maxRecDepth 20000 in
theorem rdVar_nil (w : World) :
    Calls Tryz.prog 168 #[.pointer none] w fun E w' => E = .returned (.int .u64 0) ∧ w.grownBy w' none := by
  go_enter Tryz.func168, Tryz.ntmps168
  go_wp2
  go_loopw [3, 4, 5, 6, 7] (fun n _ _ _ j wr => j = .int .i64 0 ∧ n = .int .u64 0 ∧ wr = w) (fun _ _ _ _ j _ => 0)
  case atStart => exact ⟨rfl, rfl, rfl⟩
  case round =>
    obtain ⟨rfl, rfl, rfl⟩ := hrel
    have hb := bits_00
    have hv := vf_00
    go_wp2_with fail
    refine (rdU8_nil' _).mono ?_
    rintro E w1 ⟨rfl, hw1⟩
    go_wp2_with fail
    refine (varFault_c 0 0 _ (by omega) (by omega)).mono ?_
    rintro E w' ⟨rfl, rfl⟩
    go_wp2
    go_ret
    exact ⟨rfl, hw1⟩
theorem rdErr_nil (w : World) : Calls Tryz.prog 125 #[.pointer none] w fun E w' => E = .returned (.int .i64 1) ∧ w = w' := by
  go_enter Tryz.func125, Tryz.ntmps125
  go_wp2
  go_ret
  exact ⟨rfl, rfl⟩
theorem rdRest_nil (w : World) : Calls Tryz.prog 127 #[.pointer none] w fun E w' => E = .returned (.string (str [])) ∧ w = w' := by
  go_enter Tryz.func127, Tryz.ntmps127
  go_wp2
  go_ret
  exact ⟨rfl, rfl⟩
end Go.Proofs.YtacgmadgkmcmoaaGreatDoor
/- The functions of package codec that write, as the walk of the program's text gives them: one contract each. Conditions: the writer lies at a block of its own, its row behind it; it holds 2^40 bytes at most. -/
namespace Go.Proofs.YtacgmadgkmcmoaaGreatDoor
open Go.RowKit
set_option linter.unusedVariables false

/-- The writer's block g, and its row behind it. -/
def Wr (w : World) (g : Nat) (bs : List UInt8) : Prop :=
  ∃ ao cap, Cells w g 153 #[.slice ao bs.length cap] ∧ w.ownsRow (g + 1) 5 1 (.slice ao bs.length cap) bs.length (bvs bs)
def WrTo (w : World) (g : Nat) (bs : List UInt8) (w' : World) : Prop := Wr w' g bs ∧ Below g w w'
theorem wr_to {w : World} {g : Nat} {bs : List UInt8} (h : Wr w g bs) : WrTo w g bs w := ⟨h, Below.refl _ _⟩
theorem wrTo_trans {w w1 w2 : World} {g : Nat} {bs bs2 : List UInt8} (h : WrTo w g bs w1) (k : WrTo w1 g bs2 w2) : WrTo w g bs2 w2 := ⟨k.1, h.2.trans k.2⟩
theorem wr_lt {w : World} {g : Nat} {bs : List UInt8} (h : Wr w g bs) : g < w.heap.size := by obtain ⟨_, _, hc, _⟩ := h; exact hc.lt
/-- What turns no block from g on (but for new ones) leaves a writer as it is. -/
theorem wr_on {w w' : World} {g r : Nat} {bs : List UInt8} (h : Wr w g bs) (k : w.grownBy w' (some r)) (hr : r < g) : Wr w' g bs := by
  obtain ⟨ao, cap, hc, ho⟩ := h
  exact ⟨ao, cap, hc.grown k (by simp; omega), ho.kept k (by
    rcases ho.2 with ⟨he, _⟩ | ⟨g', cap', cur, he, hg, _⟩
    · rw [he]; exact .inl rfl
    · rw [he]; exact .inr (by simp [Value.ownBlock]; omega))⟩
theorem wr_on0 {w w' : World} {g : Nat} {bs : List UInt8} (h : Wr w g bs) (k : w.grownBy w' none) : Wr w' g bs := by
  obtain ⟨ao, cap, hc, ho⟩ := h
  exact ⟨ao, cap, hc.grown k (by simp), ho.kept k (by
    rcases ho.2 with ⟨he, _⟩ | ⟨g', cap', cur, he, hg, _⟩
    · rw [he]; exact .inl rfl
    · rw [he]; exact .inr (by simp [Value.ownBlock]))⟩
theorem wr_new (w : World) : Wr (w.alloc (.cells #[.slice none 0 0] 153)) w.heap.size [] :=
  ⟨none, 0, Cells.made w _ _, World.ownsRow_nil _ _ _ _⟩
theorem info_u8 : (Tryz.prog.info? 5).map (fun i => (i.zero, i.size, i.bytes)) = some (some (.int .u8 0), 1, 1) := by kernel_rfl
theorem le_snoc : ∀ (k n : Nat), le (k + 1) n = le k n ++ [UInt8.ofNat (n / 256 ^ k % 256)]
  | 0, n => by simp [le]
  | k + 1, n => by
    rw [le, le_snoc k (n / 256)]
    simp [le, Nat.pow_succ, Nat.div_div_eq_div_mul, Nat.mul_comm]
theorem byte_of (n i : Nat) : IntKind.u8.wrap ((n : Int) / 2 ^ (8 * i)) = ((UInt8.ofNat (n / 256 ^ i % 256)).toNat : Int) := by
  have hp : 256 ^ i = 2 ^ (8 * i) := by rw [show (256 : Nat) = 2 ^ 8 from rfl, ← Nat.pow_mul]
  rw [hp]
  generalize 8 * i = j
  have h1 : (UInt8.ofNat (n / 2 ^ j % 256)).toNat = n / 2 ^ j % 256 := by rw [UInt8.toNat_ofNat']; exact Nat.mod_mod _ _
  have h2 : ((n : Int) / 2 ^ j) = ((n / 2 ^ j : Nat) : Int) := by rw [Int.natCast_ediv, Int.natCast_pow]; rfl
  rw [h1, IntKind.wrap_u8', h2]
  omega
theorem byte_of' (n i : Nat) (hn : n < 18446744073709551616) : IntKind.u8.wrap (IntKind.u64.wrap (n : Int) / 2 ^ (8 * i)) = ((UInt8.ofNat (n / 256 ^ i % 256)).toNat : Int) := by
  rw [u64_id _ (by omega) (by omega), byte_of]
theorem wr_put {w wr W w1 : World} {g cap cap' : Nat} {ao ao' : Option Addr} {bb cc : List UInt8} (hb : Below g w wr) (hgl : g < W.heap.size) (hW : Below g wr W) (hc1 : Cells w1 g 153 #[.slice ao bb.length cap])
    (hown : wr.ownsRow (g + 1) 5 1 (.slice ao bb.length cap) bb.length (bvs bb)) (hgr : W.grownBy w1 (Value.slice ao bb.length cap).ownBlock)
    (hown1 : w1.ownsRow (g + 1) 5 1 (.slice ao' (bb.length + cc.length) cap') (bb.length + cc.length) (bvs bb ++ bvs cc)) :
    WrTo w g (bb ++ cc) (w1.setCell ⟨g, 0, none⟩ (.slice ao' (bb.length + cc.length) cap')) := by
  refine ⟨⟨ao', cap', ?_, ?_⟩, ((hb.trans hW).grown hgr (by omega) (fun k e => by have := (hown.lt k e).1; omega)).setCell (Nat.le_refl _) _⟩
  · have := hc1.set 0 (.slice ao' (bb.length + cc.length) cap')
    simpa using this
  · have := ownsRow_setCell_below hown1 (a := ⟨g, 0, none⟩) (by show g < g + 1; omega) (.slice ao' (bb.length + cc.length) cap')
    simpa [bvs_append] using this
theorem wr_push {w wr W w1 : World} {g g' cap cap' : Nat} {ao : Option Addr} {bb : List UInt8} {x : Int} {b : UInt8} (hb : Below g w wr) (hgl : g < W.heap.size) (hW : Below g wr W) (hc1 : Cells w1 g 153 #[.slice ao bb.length cap])
    (hown : wr.ownsRow (g + 1) 5 1 (.slice ao bb.length cap) bb.length (bvs bb)) (hgr : W.grownBy w1 (Value.slice ao bb.length cap).ownBlock)
    (hown1 : w1.ownsRow (g + 1) 5 1 (.slice (some ⟨g', 0, none⟩) (bb.length + 1) cap') (bb.length + 1) (bvs bb ++ [.int .u8 x])) (hx : x = (b.toNat : Int)) :
    WrTo w g (bb ++ [b]) (w1.setCell ⟨g, 0, none⟩ (.slice (some ⟨g', 0, none⟩) (bb.length + 1) cap')) := by
  subst hx
  exact wr_put (cc := [b]) hb hgl hW hc1 hown hgr hown1
/-- What holds at the head of put's loop. -/
def PutRel (w : World) (g : Nat) (bs : List UInt8) (k n : Nat) (j : Value) (wr : World) : Prop :=
  ∃ i : Nat, i ≤ k ∧ j = .int .i64 i ∧ WrTo w g (bs ++ le i n) wr

set_option maxHeartbeats 1000000 in
set_option maxRecDepth 20000 in
theorem put8 (g n : Nat) (bs : List UInt8) (w : World) (h : Wr w g bs) (hl : bs.length ≤ 1099511627776) (hn : n < 256) :
    Calls Tryz.prog 203 #[.pointer (some ⟨g, 0, none⟩), .int .u8 n] w fun E w' => E = .returned (.tuple #[]) ∧ WrTo w g (bs ++ le 1 n) w' := by
  have HN := Lib.hid hn
  clear hn
  go_enter Tryz.func203, Tryz.ntmps203
  go_wp2_with fail
  refine (width8 _).mono ?_
  rintro E w' ⟨rfl, rfl⟩
  go_wp2
  go_loopw [4, 8] (fun _ j wr => PutRel w g bs 1 n j wr) (fun _ j _ => 1 - (intOf j).toNat)
  case atStart => exact ⟨0, by omega, rfl, by simpa [le] using h, Below.refl _ _⟩
  case round =>
    obtain ⟨i, hi, rfl, hto⟩ := hrel
    by_cases hlt : i < 1
    · have hll : (bs ++ le i n).length = bs.length + i := by rw [List.length_append, le_length]
      have hln : (bs ++ le i n).length + 1 ≤ 1099511627800 := by omega
      have HB := Lib.hid (le_snoc i n)
      clear hll
      generalize hbb : bs ++ le i n = bb at *
      have HBB := Lib.hid hbb
      clear hbb
      obtain ⟨⟨ao, cap, hc, hown⟩, hb⟩ := hto
      have c0 : wr.cell? ⟨g, 0, none⟩ = some (.slice ao bb.length cap) := by rw [hc.cell]; rfl
      have f0 := hc.frozen 0
      obtain ⟨i0, hi0, hz0, hz1, hz2⟩ := info_parts info_u8
      have HI0 := Lib.hid hi0
      have HZ0 := Lib.hid hz0
      have HZ1 := Lib.hid hz1
      have HZ2 := Lib.hid hz2
      clear hi0 hz0 hz1 hz2
      have hb1 : bb.length + 1 ≤ maxLen := by simp only [maxLen]; omega
      have hb2 : (bb.length + 1) * 1 ≤ 140737488355328 := by omega
      have hgl := hc.lt
      have hne : some g ≠ (Value.slice ao bb.length cap).ownBlock := fun e => by have := (hown.lt g e.symm).1; omega
      have HNE := Lib.hid hne
      clear hne
      have e1 : IntKind.i64.wrap (8 * (i : Int)) = 8 * (i : Int) := IntWalk.i64_in _ (by omega)
      have e2 : (8 * (i : Int)).toNat = 8 * i := by omega
      have e3 : (0 : Int) ≤ 8 * (i : Int) := by omega
      go_wp2
      go_region_law (refine step_append_lies _ rfl (.tmp 15) (.tmp 22) 71 rfl (g + 1) 5 i0 (.int .u8 0) 1 1 Tryz.underlying71 HI0.out HZ0.out HZ1.out HZ2.out rfl (by decide) _ _ _ (by simp [Act.eval]) (hown.alloc _) ⟨wr.heap.size, 0, none⟩ 1 1 [_] (by simp [Act.eval]) rfl (cell_one_new _ _ _) (by simp [Value.oneCell']) (by decide) hb1 hb2 (by simp; omega) _ rfl ?_; intro g' cap' w1 hown1 hgr hat hlt1; have hc1 := Cells.grown (hc.alloc _).drew hgr HNE.out; have c1 : w1.cell? ⟨g, 0, none⟩ = some (.slice ao bb.length cap) := (by rw [hc1.cell]; rfl); have f1 := hc1.frozen 0)
      all_goals
        have HG := Lib.hid hgr
        have HA := Lib.hid hat
        clear hgr hat e1 e2 e3
        go_wp2
        go_roundw
        case rel =>
          refine ⟨i + 1, by omega, by go_num, ?_⟩
          rw [HB.out, ← List.append_assoc, HBB.out]
          have hnn := HN.out
          exact wr_push hb (by simp; omega) (((Below.refl g wr).alloc (by omega) _).drew) hc1 hown HG.out hown1 (by first | exact byte_of' n i (by omega) | exact byte_of n i)
        case measure => simp [intOf]; omega
    · have hx : i = 1 := by omega
      have HX := Lib.hid hx
      clear hx
      go_wp2
      go_end0
      exact ⟨rfl, by rw [← HX.out]; exact hto⟩
theorem wrU8 (g n : Nat) (bs : List UInt8) (w : World) (h : Wr w g bs) (hl : bs.length ≤ 1099511627776) (hn : n < 256) :
    Calls Tryz.prog 183 #[.pointer (some ⟨g, 0, none⟩), .int .u8 n] w fun E w' => E = .returned (.tuple #[]) ∧ WrTo w g (bs ++ le 1 n) w' := by
  have HN := Lib.hid hn
  clear hn
  go_enter Tryz.func183, Tryz.ntmps183
  go_wp2_with fail
  refine (put8 g n bs _ h hl HN.out).mono ?_
  rintro E w' ⟨rfl, hw⟩
  go_wp2
  go_end0
  exact ⟨rfl, hw⟩

set_option maxHeartbeats 1000000 in
set_option maxRecDepth 20000 in
theorem put16 (g n : Nat) (bs : List UInt8) (w : World) (h : Wr w g bs) (hl : bs.length ≤ 1099511627776) (hn : n < 65536) :
    Calls Tryz.prog 178 #[.pointer (some ⟨g, 0, none⟩), .int .u16 n] w fun E w' => E = .returned (.tuple #[]) ∧ WrTo w g (bs ++ le 2 n) w' := by
  have HN := Lib.hid hn
  clear hn
  go_enter Tryz.func178, Tryz.ntmps178
  go_wp2_with fail
  refine (width16 _).mono ?_
  rintro E w' ⟨rfl, rfl⟩
  go_wp2
  go_loopw [4, 8] (fun _ j wr => PutRel w g bs 2 n j wr) (fun _ j _ => 2 - (intOf j).toNat)
  case atStart => exact ⟨0, by omega, rfl, by simpa [le] using h, Below.refl _ _⟩
  case round =>
    obtain ⟨i, hi, rfl, hto⟩ := hrel
    by_cases hlt : i < 2
    · have hll : (bs ++ le i n).length = bs.length + i := by rw [List.length_append, le_length]
      have hln : (bs ++ le i n).length + 1 ≤ 1099511627800 := by omega
      have HB := Lib.hid (le_snoc i n)
      clear hll
      generalize hbb : bs ++ le i n = bb at *
      have HBB := Lib.hid hbb
      clear hbb
      obtain ⟨⟨ao, cap, hc, hown⟩, hb⟩ := hto
      have c0 : wr.cell? ⟨g, 0, none⟩ = some (.slice ao bb.length cap) := by rw [hc.cell]; rfl
      have f0 := hc.frozen 0
      obtain ⟨i0, hi0, hz0, hz1, hz2⟩ := info_parts info_u8
      have HI0 := Lib.hid hi0
      have HZ0 := Lib.hid hz0
      have HZ1 := Lib.hid hz1
      have HZ2 := Lib.hid hz2
      clear hi0 hz0 hz1 hz2
      have hb1 : bb.length + 1 ≤ maxLen := by simp only [maxLen]; omega
      have hb2 : (bb.length + 1) * 1 ≤ 140737488355328 := by omega
      have hgl := hc.lt
      have hne : some g ≠ (Value.slice ao bb.length cap).ownBlock := fun e => by have := (hown.lt g e.symm).1; omega
      have HNE := Lib.hid hne
      clear hne
      have e1 : IntKind.i64.wrap (8 * (i : Int)) = 8 * (i : Int) := IntWalk.i64_in _ (by omega)
      have e2 : (8 * (i : Int)).toNat = 8 * i := by omega
      have e3 : (0 : Int) ≤ 8 * (i : Int) := by omega
      go_wp2
      go_region_law (refine step_append_lies _ rfl (.tmp 15) (.tmp 22) 71 rfl (g + 1) 5 i0 (.int .u8 0) 1 1 Tryz.underlying71 HI0.out HZ0.out HZ1.out HZ2.out rfl (by decide) _ _ _ (by simp [Act.eval]) (hown.alloc _) ⟨wr.heap.size, 0, none⟩ 1 1 [_] (by simp [Act.eval]) rfl (cell_one_new _ _ _) (by simp [Value.oneCell']) (by decide) hb1 hb2 (by simp; omega) _ rfl ?_; intro g' cap' w1 hown1 hgr hat hlt1; have hc1 := Cells.grown (hc.alloc _).drew hgr HNE.out; have c1 : w1.cell? ⟨g, 0, none⟩ = some (.slice ao bb.length cap) := (by rw [hc1.cell]; rfl); have f1 := hc1.frozen 0)
      all_goals
        have HG := Lib.hid hgr
        have HA := Lib.hid hat
        clear hgr hat e1 e2 e3
        go_wp2
        go_roundw
        case rel =>
          refine ⟨i + 1, by omega, by go_num, ?_⟩
          rw [HB.out, ← List.append_assoc, HBB.out]
          have hnn := HN.out
          exact wr_push hb (by simp; omega) (((Below.refl g wr).alloc (by omega) _).drew) hc1 hown HG.out hown1 (by first | exact byte_of' n i (by omega) | exact byte_of n i)
        case measure => simp [intOf]; omega
    · have hx : i = 2 := by omega
      have HX := Lib.hid hx
      clear hx
      go_wp2
      go_end0
      exact ⟨rfl, by rw [← HX.out]; exact hto⟩
theorem wrU16 (g n : Nat) (bs : List UInt8) (w : World) (h : Wr w g bs) (hl : bs.length ≤ 1099511627776) (hn : n < 65536) :
    Calls Tryz.prog 141 #[.pointer (some ⟨g, 0, none⟩), .int .u16 n] w fun E w' => E = .returned (.tuple #[]) ∧ WrTo w g (bs ++ le 2 n) w' := by
  have HN := Lib.hid hn
  clear hn
  go_enter Tryz.func141, Tryz.ntmps141
  go_wp2_with fail
  refine (put16 g n bs _ h hl HN.out).mono ?_
  rintro E w' ⟨rfl, hw⟩
  go_wp2
  go_end0
  exact ⟨rfl, hw⟩

set_option maxHeartbeats 1000000 in
set_option maxRecDepth 20000 in
theorem put32 (g n : Nat) (bs : List UInt8) (w : World) (h : Wr w g bs) (hl : bs.length ≤ 1099511627776) (hn : n < 4294967296) :
    Calls Tryz.prog 179 #[.pointer (some ⟨g, 0, none⟩), .int .u32 n] w fun E w' => E = .returned (.tuple #[]) ∧ WrTo w g (bs ++ le 4 n) w' := by
  have HN := Lib.hid hn
  clear hn
  go_enter Tryz.func179, Tryz.ntmps179
  go_wp2_with fail
  refine (width32 _).mono ?_
  rintro E w' ⟨rfl, rfl⟩
  go_wp2
  go_loopw [4, 8] (fun _ j wr => PutRel w g bs 4 n j wr) (fun _ j _ => 4 - (intOf j).toNat)
  case atStart => exact ⟨0, by omega, rfl, by simpa [le] using h, Below.refl _ _⟩
  case round =>
    obtain ⟨i, hi, rfl, hto⟩ := hrel
    by_cases hlt : i < 4
    · have hll : (bs ++ le i n).length = bs.length + i := by rw [List.length_append, le_length]
      have hln : (bs ++ le i n).length + 1 ≤ 1099511627800 := by omega
      have HB := Lib.hid (le_snoc i n)
      clear hll
      generalize hbb : bs ++ le i n = bb at *
      have HBB := Lib.hid hbb
      clear hbb
      obtain ⟨⟨ao, cap, hc, hown⟩, hb⟩ := hto
      have c0 : wr.cell? ⟨g, 0, none⟩ = some (.slice ao bb.length cap) := by rw [hc.cell]; rfl
      have f0 := hc.frozen 0
      obtain ⟨i0, hi0, hz0, hz1, hz2⟩ := info_parts info_u8
      have HI0 := Lib.hid hi0
      have HZ0 := Lib.hid hz0
      have HZ1 := Lib.hid hz1
      have HZ2 := Lib.hid hz2
      clear hi0 hz0 hz1 hz2
      have hb1 : bb.length + 1 ≤ maxLen := by simp only [maxLen]; omega
      have hb2 : (bb.length + 1) * 1 ≤ 140737488355328 := by omega
      have hgl := hc.lt
      have hne : some g ≠ (Value.slice ao bb.length cap).ownBlock := fun e => by have := (hown.lt g e.symm).1; omega
      have HNE := Lib.hid hne
      clear hne
      have e1 : IntKind.i64.wrap (8 * (i : Int)) = 8 * (i : Int) := IntWalk.i64_in _ (by omega)
      have e2 : (8 * (i : Int)).toNat = 8 * i := by omega
      have e3 : (0 : Int) ≤ 8 * (i : Int) := by omega
      go_wp2
      go_region_law (refine step_append_lies _ rfl (.tmp 15) (.tmp 22) 71 rfl (g + 1) 5 i0 (.int .u8 0) 1 1 Tryz.underlying71 HI0.out HZ0.out HZ1.out HZ2.out rfl (by decide) _ _ _ (by simp [Act.eval]) (hown.alloc _) ⟨wr.heap.size, 0, none⟩ 1 1 [_] (by simp [Act.eval]) rfl (cell_one_new _ _ _) (by simp [Value.oneCell']) (by decide) hb1 hb2 (by simp; omega) _ rfl ?_; intro g' cap' w1 hown1 hgr hat hlt1; have hc1 := Cells.grown (hc.alloc _).drew hgr HNE.out; have c1 : w1.cell? ⟨g, 0, none⟩ = some (.slice ao bb.length cap) := (by rw [hc1.cell]; rfl); have f1 := hc1.frozen 0)
      all_goals
        have HG := Lib.hid hgr
        have HA := Lib.hid hat
        clear hgr hat e1 e2 e3
        go_wp2
        go_roundw
        case rel =>
          refine ⟨i + 1, by omega, by go_num, ?_⟩
          rw [HB.out, ← List.append_assoc, HBB.out]
          have hnn := HN.out
          exact wr_push hb (by simp; omega) (((Below.refl g wr).alloc (by omega) _).drew) hc1 hown HG.out hown1 (by first | exact byte_of' n i (by omega) | exact byte_of n i)
        case measure => simp [intOf]; omega
    · have hx : i = 4 := by omega
      have HX := Lib.hid hx
      clear hx
      go_wp2
      go_end0
      exact ⟨rfl, by rw [← HX.out]; exact hto⟩
theorem wrU32 (g n : Nat) (bs : List UInt8) (w : World) (h : Wr w g bs) (hl : bs.length ≤ 1099511627776) (hn : n < 4294967296) :
    Calls Tryz.prog 142 #[.pointer (some ⟨g, 0, none⟩), .int .u32 n] w fun E w' => E = .returned (.tuple #[]) ∧ WrTo w g (bs ++ le 4 n) w' := by
  have HN := Lib.hid hn
  clear hn
  go_enter Tryz.func142, Tryz.ntmps142
  go_wp2_with fail
  refine (put32 g n bs _ h hl HN.out).mono ?_
  rintro E w' ⟨rfl, hw⟩
  go_wp2
  go_end0
  exact ⟨rfl, hw⟩

set_option maxHeartbeats 1000000 in
set_option maxRecDepth 20000 in
theorem put64 (g n : Nat) (bs : List UInt8) (w : World) (h : Wr w g bs) (hl : bs.length ≤ 1099511627776) (hn : n < 18446744073709551616) :
    Calls Tryz.prog 139 #[.pointer (some ⟨g, 0, none⟩), .int .u64 n] w fun E w' => E = .returned (.tuple #[]) ∧ WrTo w g (bs ++ le 8 n) w' := by
  have HN := Lib.hid hn
  clear hn
  go_enter Tryz.func139, Tryz.ntmps139
  go_wp2_with fail
  refine (width64 _).mono ?_
  rintro E w' ⟨rfl, rfl⟩
  go_wp2
  go_loopw [4, 8] (fun _ j wr => PutRel w g bs 8 n j wr) (fun _ j _ => 8 - (intOf j).toNat)
  case atStart => exact ⟨0, by omega, rfl, by simpa [le] using h, Below.refl _ _⟩
  case round =>
    obtain ⟨i, hi, rfl, hto⟩ := hrel
    by_cases hlt : i < 8
    · have hll : (bs ++ le i n).length = bs.length + i := by rw [List.length_append, le_length]
      have hln : (bs ++ le i n).length + 1 ≤ 1099511627800 := by omega
      have HB := Lib.hid (le_snoc i n)
      clear hll
      generalize hbb : bs ++ le i n = bb at *
      have HBB := Lib.hid hbb
      clear hbb
      obtain ⟨⟨ao, cap, hc, hown⟩, hb⟩ := hto
      have c0 : wr.cell? ⟨g, 0, none⟩ = some (.slice ao bb.length cap) := by rw [hc.cell]; rfl
      have f0 := hc.frozen 0
      obtain ⟨i0, hi0, hz0, hz1, hz2⟩ := info_parts info_u8
      have HI0 := Lib.hid hi0
      have HZ0 := Lib.hid hz0
      have HZ1 := Lib.hid hz1
      have HZ2 := Lib.hid hz2
      clear hi0 hz0 hz1 hz2
      have hb1 : bb.length + 1 ≤ maxLen := by simp only [maxLen]; omega
      have hb2 : (bb.length + 1) * 1 ≤ 140737488355328 := by omega
      have hgl := hc.lt
      have hne : some g ≠ (Value.slice ao bb.length cap).ownBlock := fun e => by have := (hown.lt g e.symm).1; omega
      have HNE := Lib.hid hne
      clear hne
      have e1 : IntKind.i64.wrap (8 * (i : Int)) = 8 * (i : Int) := IntWalk.i64_in _ (by omega)
      have e2 : (8 * (i : Int)).toNat = 8 * i := by omega
      have e3 : (0 : Int) ≤ 8 * (i : Int) := by omega
      go_wp2
      go_region_law (refine step_append_lies _ rfl (.tmp 15) (.tmp 21) 71 rfl (g + 1) 5 i0 (.int .u8 0) 1 1 Tryz.underlying71 HI0.out HZ0.out HZ1.out HZ2.out rfl (by decide) _ _ _ (by simp [Act.eval]) (hown.alloc _) ⟨wr.heap.size, 0, none⟩ 1 1 [_] (by simp [Act.eval]) rfl (cell_one_new _ _ _) (by simp [Value.oneCell']) (by decide) hb1 hb2 (by simp; omega) _ rfl ?_; intro g' cap' w1 hown1 hgr hat hlt1; have hc1 := Cells.grown (hc.alloc _).drew hgr HNE.out; have c1 : w1.cell? ⟨g, 0, none⟩ = some (.slice ao bb.length cap) := (by rw [hc1.cell]; rfl); have f1 := hc1.frozen 0)
      all_goals
        have HG := Lib.hid hgr
        have HA := Lib.hid hat
        clear hgr hat e1 e2 e3
        go_wp2
        go_roundw
        case rel =>
          refine ⟨i + 1, by omega, by go_num, ?_⟩
          rw [HB.out, ← List.append_assoc, HBB.out]
          have hnn := HN.out
          exact wr_push hb (by simp; omega) (((Below.refl g wr).alloc (by omega) _).drew) hc1 hown HG.out hown1 (by first | exact byte_of' n i (by omega) | exact byte_of n i)
        case measure => simp [intOf]; omega
    · have hx : i = 8 := by omega
      have HX := Lib.hid hx
      clear hx
      go_wp2
      go_end0
      exact ⟨rfl, by rw [← HX.out]; exact hto⟩
theorem wrU64 (g n : Nat) (bs : List UInt8) (w : World) (h : Wr w g bs) (hl : bs.length ≤ 1099511627776) (hn : n < 18446744073709551616) :
    Calls Tryz.prog 91 #[.pointer (some ⟨g, 0, none⟩), .int .u64 n] w fun E w' => E = .returned (.tuple #[]) ∧ WrTo w g (bs ++ le 8 n) w' := by
  have HN := Lib.hid hn
  clear hn
  go_enter Tryz.func91, Tryz.ntmps91
  go_wp2_with fail
  refine (put64 g n bs _ h hl HN.out).mono ?_
  rintro E w' ⟨rfl, hw⟩
  go_wp2
  go_end0
  exact ⟨rfl, hw⟩
end Go.Proofs.YtacgmadgkmcmoaaGreatDoor
/- The functions of package codec that write, at last: a number with a sign, a var, a text; the bytes; writers that are none. -/
namespace Go.Proofs.YtacgmadgkmcmoaaGreatDoor
open Go.RowKit
set_option linter.unusedVariables false

theorem or128 : ∀ x : Fin 256, x.val ||| 128 = x.val % 128 + 128 := by decide +kernel
theorem or_top (m : Nat) : ∃ c : Nat, bits .or .u8 ((m : Int) % 256) 128 = (c : Int) ∧ c < 256 ∧ c = m % 128 + 128 := by
  refine ⟨m % 256 ||| 128, ?_, ?_, ?_⟩
  · rw [show ((m : Int) % 256) = ((m % 256 : Nat) : Int) from rfl]
    exact u8_or_nat (m % 256) 128 (by omega) (by omega)
  · exact Nat.or_lt_two_pow (n := 8) (by omega) (by omega)
  · have := or128 ⟨m % 256, by omega⟩
    simp only at this
    omega
theorem le_one {c : Nat} (h : c < 256) : le 1 c = [UInt8.ofNat c] := by rw [le, le, Nat.mod_eq_of_lt h]
theorem row_shape {w : World} {base : Nat} {e : TypeId} {size n : Nat} {v : Value} {xs : List Value} (h : w.ownsRow base e size v n xs) : ∃ ao cap, v = .slice ao n cap := by
  rcases h.2 with ⟨rfl, rfl⟩ | ⟨g, cap, cur, rfl, _⟩
  · exact ⟨_, _, rfl⟩
  · exact ⟨_, _, rfl⟩
/-- A var of n is written up to a number m. -/
def VrAt (n : Nat) (done : List UInt8) (m : Nat) : Prop := ∃ f, f ≤ 9 ∧ m < 2 ^ (7 * f + 1) ∧ vr n = done ++ vrF f m ∧ done.length = 9 - f
theorem vrAt_start {n : Nat} (hn : n < 18446744073709551616) : VrAt n [] n := ⟨9, by omega, by simpa using hn, rfl, rfl⟩
theorem vrAt_next {n m c : Nat} {done : List UInt8} (h : VrAt n done m) (hm : 128 ≤ m) (hc : c = m % 128 + 128) : VrAt n (done ++ le 1 c) (m / 128) := by
  obtain ⟨f, hf, hlt, he, hd⟩ := h
  cases f with
  | zero => simp at hlt; omega
  | succ f =>
    refine ⟨f, by omega, ?_, ?_, ?_⟩
    · rw [show 7 * (f + 1) + 1 = (7 * f + 1) + 7 from by omega, Nat.pow_add] at hlt
      exact Nat.div_lt_of_lt_mul (by rw [Nat.mul_comm]; exact hlt)
    · rw [he, vrF, if_neg (by omega), le_one (by omega), ← hc]
      simp
    · rw [List.length_append, le_length, hd]; omega
theorem vrAt_last {n m c : Nat} {done : List UInt8} (h : VrAt n done m) (hm : m < 128) (hc : c = m) : vr n = done ++ le 1 c := by
  obtain ⟨f, hf, hlt, he, hd⟩ := h
  rw [he]
  subst hc
  rw [le_one (by omega)]
  cases f with
  | zero => simp [vrF]
  | succ f => simp [vrF, hm]
theorem vrAt_len {n m : Nat} {done : List UInt8} (h : VrAt n done m) : done.length ≤ 9 := by
  obtain ⟨f, hf, _, _, hd⟩ := h; omega
def VarPut (w : World) (g n : Nat) (bs : List UInt8) (v : Value) (wr : World) : Prop :=
  ∃ (m : Nat) (done : List UInt8), v = .int .u64 m ∧ VrAt n done m ∧ WrTo w g (bs ++ done) wr

set_option maxHeartbeats 1000000 in
set_option maxRecDepth 20000 in
theorem wrVar (g n : Nat) (bs : List UInt8) (w : World) (h : Wr w g bs) (hl : bs.length ≤ 1099511627700) (hn : n < 18446744073709551616) :
    Calls Tryz.prog 145 #[.pointer (some ⟨g, 0, none⟩), .int .u64 n] w fun E w' => E = .returned (.tuple #[]) ∧ WrTo w g (bs ++ vr n) w' := by
  have HN := Lib.hid hn
  clear hn
  go_enter Tryz.func145, Tryz.ntmps145
  go_wp2
  go_loopw [1] (fun v wr => VarPut w g n bs v wr) (fun v _ => (intOf v).toNat)
  case atStart => exact ⟨n, [], rfl, vrAt_start HN.out, by simpa using wr_to h⟩
  case round =>
    obtain ⟨m, done, rfl, hat, hto⟩ := hrel
    have hdl := vrAt_len hat
    have hln : (bs ++ done).length ≤ 1099511627776 := by rw [List.length_append]; omega
    have HLN := Lib.hid hln
    clear hln
    have hwr := hto.1
    by_cases hm : 128 ≤ m
    · obtain ⟨c, hc1, hc2, hc3⟩ := or_top m
      have HC := Lib.hid hc3
      clear hc3
      go_wp2_with fail
      refine (wrU8 g c _ _ hwr HLN.out (by omega)).mono ?_
      rintro E w1 ⟨rfl, hw1⟩
      have HW := Lib.hid (wrTo_trans hto hw1)
      clear hw1
      go_wp2
      go_roundw
      case rel => exact ⟨m / 128, done ++ le 1 c, by go_num, vrAt_next hat hm HC.out, by rw [← List.append_assoc]; exact HW.out⟩
      case measure => simp [intOf]; omega
    · obtain ⟨c, hc⟩ : ∃ c : Nat, c = m := ⟨m, rfl⟩
      go_wp2_with fail
      refine (wrU8 g m _ _ hwr HLN.out (by omega)).mono ?_
      rintro E w1 ⟨rfl, hw1⟩
      have HW := Lib.hid (wrTo_trans hto hw1)
      clear hw1 hc
      go_wp2
      go_end0
      refine ⟨rfl, ?_⟩
      rw [vrAt_last hat (by omega) rfl, ← List.append_assoc]
      exact HW.out

theorem wrI32 (g n : Nat) (z : Int) (bs : List UInt8) (w : World) (h : Wr w g bs) (hl : bs.length ≤ 1099511627776) (hn : n < 4294967296) (hz : IntKind.u32.wrap z = (n : Int)) :
    Calls Tryz.prog 182 #[.pointer (some ⟨g, 0, none⟩), .int .i32 z] w fun E w' => E = .returned (.tuple #[]) ∧ WrTo w g (bs ++ le 4 n) w' := by
  have HN := Lib.hid hn
  clear hn
  go_enter Tryz.func182, Tryz.ntmps182
  go_wp2_with fail
  refine (put32 g n bs _ h hl HN.out).mono ?_
  rintro E w' ⟨rfl, hw⟩
  go_wp2
  go_end0
  exact ⟨rfl, hw⟩

set_option maxRecDepth 100000 in
theorem wr_bytes {w : World} {g cap : Nat} {ao : Option Addr} {bs : List UInt8} (ho : w.ownsRow (g + 1) 5 1 (.slice ao bs.length cap) bs.length (bvs bs)) :
    (convert 71 9 (.slice ao bs.length cap)).run Tryz.prog w = .ok (.string (str bs)) w := by
  rcases ho.2 with ⟨he, h0⟩ | ⟨g', cap', cur, he, _, hh, _⟩
  · have : bs = [] := List.eq_nil_of_length_eq_zero h0
    subst this
    injection he with e1 e2 e3
    subst e1 e3
    exact Lib.run_convert_nil_bytes w _ _ 5 0 Tryz.underlying71 Tryz.underlying5 Tryz.underlying9
  · injection he with e1 e2 e3
    subst e1 e3
    refine run_convert_bytes_back w _ _ 5 _ _ bs Tryz.underlying71 Tryz.underlying5 Tryz.underlying9 (fun j hj => ?_)
    exact ho.cells (g := g') rfl j _ (by simp [bvs, bv, List.getElem?_eq_getElem hj])
theorem wrBytes (g : Nat) (bs : List UInt8) (w : World) (h : Wr w g bs) :
    Calls Tryz.prog 94 #[.pointer (some ⟨g, 0, none⟩)] w fun E w' => E = .returned (.string (str bs)) ∧ w = w' := by
  obtain ⟨ao, cap, hc, hown⟩ := h
  have c0 : w.cell? ⟨g, 0, none⟩ = some (.slice ao bs.length cap) := by rw [hc.cell]; rfl
  have hcv := wr_bytes hown
  go_enter Tryz.func94, Tryz.ntmps94
  go_wp2
  go_ret
  exact ⟨rfl, rfl⟩
theorem wrBytes_nil (w : World) : Calls Tryz.prog 94 #[.pointer none] w fun E w' => E = .returned (.string (str [])) ∧ w = w' := by
  go_enter Tryz.func94, Tryz.ntmps94
  go_wp2
  go_ret
  exact ⟨rfl, rfl⟩
theorem put8_nil (n : Int) (w : World) : Calls Tryz.prog 203 #[.pointer none, .int .u8 n] w fun E w' => E = .returned (.tuple #[]) ∧ w = w' := by
  go_enter Tryz.func203, Tryz.ntmps203
  go_wp2
  refine bodyPost_ret (results_none rfl _ _ _) rfl ?_
  exact ⟨rfl, rfl⟩
theorem wrU8_nil (n : Int) (w : World) : Calls Tryz.prog 183 #[.pointer none, .int .u8 n] w fun E w' => E = .returned (.tuple #[]) ∧ w = w' := by
  go_enter Tryz.func183, Tryz.ntmps183
  go_wp2_with fail
  refine (put8_nil n _).mono ?_
  rintro E w' ⟨rfl, rfl⟩
  go_wp2
  go_end0
  exact ⟨rfl, rfl⟩
end Go.Proofs.YtacgmadgkmcmoaaGreatDoor
/- The document's answer for layer 2: numbers, vars and texts as bytes: one contract each. -/
namespace Go.Proofs.YtacgmadgkmcmoaaGreatDoor
open Go.RowKit
set_option linter.unusedVariables false

theorem grown_of_below {w w' : World} {r : Option Nat} (h : Below w.heap.size w w') : w.grownBy w' r := ⟨h.os, h.tape, h.output, h.size, fun k hk _ => h.block k hk⟩
theorem below_of_grown {w w' : World} (h : w.grownBy w' none) : Below w.heap.size w w' := ⟨h.os, h.tape, h.output, h.size, fun k hk => h.block k hk (by simp)⟩
/-- A slice of bytes that the call has made. -/
def Row (w : World) (B : Nat) (v : Value) (bs : List UInt8) (wr : World) : Prop :=
  ∃ ao cap, v = .slice ao bs.length cap ∧ wr.ownsRow B 5 1 v bs.length (bvs bs) ∧ Below B w wr ∧ B ≤ wr.heap.size
theorem row_start (w : World) : Row w w.heap.size (.slice none 0 0) [] w := ⟨none, 0, rfl, World.ownsRow_nil _ _ _ _, Below.refl _ _, Nat.le_refl _⟩
theorem row_push {w wr W w1 : World} {B g' cap cap' : Nat} {ao : Option Addr} {bb : List UInt8} {x : Int} {b : UInt8} (hb : Below B w wr) (hB : B ≤ W.heap.size) (hW : Below B wr W)
    (hown : wr.ownsRow B 5 1 (.slice ao bb.length cap) bb.length (bvs bb)) (hgr : W.grownBy w1 (Value.slice ao bb.length cap).ownBlock)
    (hown1 : w1.ownsRow B 5 1 (.slice (some ⟨g', 0, none⟩) (bb.length + 1) cap') (bb.length + 1) (bvs bb ++ [.int .u8 x])) (hx : x = (b.toNat : Int)) :
    Row w B (.slice (some ⟨g', 0, none⟩) (bb.length + 1) cap') (bb ++ [b]) w1 := by
  subst hx
  refine ⟨some ⟨g', 0, none⟩, cap', by simp, ?_, (hb.trans hW).grown hgr hB (fun k e => (hown.lt k e).1), Nat.le_trans hB hgr.size⟩
  simpa [bvs_append, bvs, bv] using hown1
set_option maxRecDepth 100000 in
theorem row_bytes {w : World} {B cap : Nat} {ao : Option Addr} {bs : List UInt8} (ho : w.ownsRow B 5 1 (.slice ao bs.length cap) bs.length (bvs bs)) :
    (convert 71 9 (.slice ao bs.length cap)).run Tryz.prog w = .ok (.string (str bs)) w := by
  rcases ho.2 with ⟨he, h0⟩ | ⟨g', cap', cur, he, _, hh, _⟩
  · have : bs = [] := List.eq_nil_of_length_eq_zero h0
    subst this
    injection he with e1 e2 e3
    subst e1 e3
    exact Lib.run_convert_nil_bytes w _ _ 5 0 Tryz.underlying71 Tryz.underlying5 Tryz.underlying9
  · injection he with e1 e2 e3
    subst e1 e3
    refine run_convert_bytes_back w _ _ 5 _ _ bs Tryz.underlying71 Tryz.underlying5 Tryz.underlying9 (fun j hj => ?_)
    exact ho.cells (g := g') rfl j _ (by simp [bvs, bv, List.getElem?_eq_getElem hj])
theorem byte_mod (m : Nat) (h : m < 256) : (m : Int) = ((UInt8.ofNat m).toNat : Int) := by
  rw [UInt8.toNat_ofNat']; omega
theorem udiv_id (m d : Nat) (hm : m < 18446744073709551616) : IntKind.u64.wrap ((m : Int) / (d : Int)) = ((m / d : Nat) : Int) := by
  have h : m / d ≤ m := Nat.div_le_self _ _
  rw [show ((m : Int) / (d : Int)) = ((m / d : Nat) : Int) from rfl]
  generalize m / d = q at *
  exact u64_id _ (by omega) (by omega)
theorem udiv_eq {m d r : Nat} (hm : m < 18446744073709551616) (h : m / d = r) : Value.int .u64 (IntKind.u64.wrap ((m : Int) / (d : Int))) = .int .u64 (r : Int) := by rw [udiv_id m d hm, h]
theorem div_pow_lt {n i : Nat} (hn : n < 18446744073709551616) : n / 256 ^ i < 18446744073709551616 := Nat.lt_of_le_of_lt (Nat.div_le_self _ _) hn
theorem vrAt_lt {n m : Nat} {done : List UInt8} (h : VrAt n done m) : m < 18446744073709551616 := by
  obtain ⟨f, hf, hlt, _⟩ := h
  have : 2 ^ (7 * f + 1) ≤ 2 ^ 64 := Nat.pow_le_pow_right (by omega) (by omega)
  omega
theorem row_pushed {w1 : World} {B g' cap' : Nat} {bb : List UInt8} {x : Int} {b : UInt8}
    (hown1 : w1.ownsRow B 5 1 (.slice (some ⟨g', 0, none⟩) (bb.length + 1) cap') (bb.length + 1) (bvs bb ++ [.int .u8 x])) (hx : x = (b.toNat : Int)) :
    (convert 71 9 (.slice (some ⟨g', 0, none⟩) (bb.length + 1) cap')).run Tryz.prog w1 = .ok (.string (str (bb ++ [b]))) w1 := by
  subst hx
  have h2 : (bb ++ [b]).length = bb.length + 1 := by simp
  have := row_bytes (w := w1) (B := B) (ao := some ⟨g', 0, none⟩) (cap := cap') (bs := bb ++ [b]) (by rw [h2]; simpa [bvs_append, bvs, bv] using hown1)
  rwa [h2] at this
def NumPut (w : World) (n k : Nat) (v s j : Value) (wr : World) : Prop :=
  ∃ i : Nat, i ≤ k ∧ v = .int .u64 ((n / 256 ^ i : Nat) : Int) ∧ j = .int .i64 i ∧ Row w w.heap.size s (le i n) wr

set_option maxHeartbeats 1000000 in
set_option maxRecDepth 20000 in
theorem refNumber (n k : Nat) (w : World) (hn : n < 18446744073709551616) (hk : k ≤ 8) :
    Calls Tryz.prog 76 #[.int .u64 n, .int .i64 k] w fun E w' => E = .returned (.string (str (le k n))) ∧ w.grownBy w' none := by
  have HN := Lib.hid hn
  clear hn
  go_enter Tryz.func76, Tryz.ntmps76
  go_wp2
  go_loopw [0, 5, 6] (fun v s j wr => NumPut w n k v s j wr) (fun _ _ j _ => k - (intOf j).toNat)
  case atStart => exact ⟨0, by omega, by simp, rfl, row_start w⟩
  case round =>
    obtain ⟨i, hi, rfl, rfl, hrow⟩ := hrel
    by_cases hlt : i < k
    · have HB := Lib.hid (le_snoc i n)
      have hll := le_length i n
      generalize hbb : le i n = bb at *
      have hln : bb.length ≤ 8 := by omega
      have HBB := Lib.hid hbb
      have HLL := Lib.hid hll
      clear hbb hll
      have HD : Hid (n / 256 ^ i / 256 = n / 256 ^ (i + 1)) := by show _ = _; rw [Nat.div_div_eq_div_mul, Nat.pow_succ]
      have HL := Lib.hid (div_pow_lt (i := i) HN.out)
      have HM := Lib.hid (byte_mod (n / 256 ^ i % 256) (Nat.mod_lt _ (by decide)))
      generalize n / 256 ^ i = m at *
      obtain ⟨ao, cap, rfl, hown, hb, hB⟩ := hrow
      obtain ⟨i0, hi0, hz0, hz1, hz2⟩ := info_parts info_u8
      have HI0 := Lib.hid hi0
      have HZ0 := Lib.hid hz0
      have HZ1 := Lib.hid hz1
      have HZ2 := Lib.hid hz2
      clear hi0 hz0 hz1 hz2
      have hb1 : bb.length + 1 ≤ maxLen := by simp only [maxLen]; omega
      have hb2 : (bb.length + 1) * 1 ≤ 140737488355328 := by omega
      go_wp2_with (at_builtin; refine wpList_append_lies _ rfl (.tmp 12) (.tmp 16) 71 rfl w.heap.size 5 i0 (.int .u8 0) 1 1 Tryz.underlying71 HI0.out HZ0.out HZ1.out HZ2.out rfl (by decide) _ _ _ (by simp [Act.eval]) (hown.alloc _) ⟨wr.heap.size, 0, none⟩ 1 1 [_] (by simp [Act.eval]) rfl (cell_one_new _ _ _) (by simp [Value.oneCell']) (by decide) hb1 hb2 (by simp; omega) _ rfl ?_; intro g' cap' w1 hown1 hgr hat2 hlt1)
      have HG := Lib.hid hgr
      have HA := Lib.hid hat2
      clear hgr hat2
      go_wp2
      go_roundw
      case rel =>
        refine ⟨i + 1, by omega, ?_, by go_num, ?_⟩
        · exact udiv_eq HL.out HD.out
        · rw [HB.out]
          exact row_push hb (by simp; omega) ((Below.refl _ wr).alloc (by omega) _) hown HG.out hown1 HM.out
      case measure => simp [intOf]; omega
    · have hx : i = k := by omega
      subst hx
      obtain ⟨ao, cap, rfl, hown, hb, hB⟩ := hrow
      have hcv := row_bytes hown
      go_wp2
      go_ret
      exact ⟨rfl, grown_of_below hb⟩

def VarRow (w : World) (n : Nat) (v s : Value) (wr : World) : Prop :=
  ∃ (m : Nat) (done : List UInt8), v = .int .u64 m ∧ VrAt n done m ∧ Row w w.heap.size s done wr
set_option maxHeartbeats 1000000 in
set_option maxRecDepth 20000 in
theorem refVar (n : Nat) (w : World) (hn : n < 18446744073709551616) :
    Calls Tryz.prog 153 #[.int .u64 n] w fun E w' => E = .returned (.string (str (vr n))) ∧ w.grownBy w' none := by
  have HN := Lib.hid hn
  clear hn
  go_enter Tryz.func153, Tryz.ntmps153
  go_wp2
  go_loopw [0, 3] (fun v s wr => VarRow w n v s wr) (fun v _ _ => (intOf v).toNat)
  case atStart => exact ⟨n, [], rfl, vrAt_start HN.out, row_start w⟩
  case round =>
    obtain ⟨m, bb, rfl, hat, hrow⟩ := hrel
    have hdl := vrAt_len hat
    have HL := Lib.hid (vrAt_lt hat)
    obtain ⟨ao, cap, rfl, hown, hb, hB⟩ := hrow
    by_cases hm : 128 ≤ m
    · have HM := Lib.hid (byte_mod (m % 128 + 128) (by omega))
      obtain ⟨i0, hi0, hz0, hz1, hz2⟩ := info_parts info_u8
      have HI0 := Lib.hid hi0
      have HZ0 := Lib.hid hz0
      have HZ1 := Lib.hid hz1
      have HZ2 := Lib.hid hz2
      clear hi0 hz0 hz1 hz2
      have hb1 : bb.length + 1 ≤ maxLen := by simp only [maxLen]; omega
      have hb2 : (bb.length + 1) * 1 ≤ 140737488355328 := by omega
      go_wp2_with (at_builtin; refine wpList_append_lies _ rfl (.tmp 6) (.tmp 11) 71 rfl w.heap.size 5 i0 (.int .u8 0) 1 1 Tryz.underlying71 HI0.out HZ0.out HZ1.out HZ2.out rfl (by decide) _ _ _ (by simp [Act.eval]) (hown.alloc _) ⟨wr.heap.size, 0, none⟩ 1 1 [_] (by simp [Act.eval]) rfl (cell_one_new _ _ _) (by simp [Value.oneCell']) (by decide) hb1 hb2 (by simp; omega) _ rfl ?_; intro g' cap' w1 hown1 hgr hat2 hlt1)
      have HG := Lib.hid hgr
      have HA := Lib.hid hat2
      clear hgr hat2
      go_wp2
      go_roundw
      case rel =>
        refine ⟨m / 128, bb ++ [UInt8.ofNat (m % 128 + 128)], udiv_eq HL.out rfl, ?_, ?_⟩
        · have := vrAt_next (c := m % 128 + 128) hat hm rfl
          rwa [le_one (show m % 128 + 128 < 256 from by omega)] at this
        · exact row_push hb (by simp; omega) ((Below.refl _ wr).alloc (by omega) _) hown HG.out hown1 HM.out
      case measure => have := udiv_id m 128 HL.out; simp [intOf] at this ⊢; omega
    · have HM := Lib.hid (byte_mod m (by omega))
      obtain ⟨i0, hi0, hz0, hz1, hz2⟩ := info_parts info_u8
      have HI0 := Lib.hid hi0
      have HZ0 := Lib.hid hz0
      have HZ1 := Lib.hid hz1
      have HZ2 := Lib.hid hz2
      clear hi0 hz0 hz1 hz2
      have hb1 : bb.length + 1 ≤ maxLen := by simp only [maxLen]; omega
      have hb2 : (bb.length + 1) * 1 ≤ 140737488355328 := by omega
      go_wp2_with (at_builtin; refine wpList_append_lies _ rfl (.tmp 15) (.tmp 18) 71 rfl w.heap.size 5 i0 (.int .u8 0) 1 1 Tryz.underlying71 HI0.out HZ0.out HZ1.out HZ2.out rfl (by decide) _ _ _ (by simp [Act.eval]) (hown.alloc _) ⟨wr.heap.size, 0, none⟩ 1 1 [_] (by simp [Act.eval]) rfl (cell_one_new _ _ _) (by simp [Value.oneCell']) (by decide) hb1 hb2 (by simp; omega) _ rfl ?_; intro g' cap' w1 hown1 hgr hat2 hlt1; have hcv := row_pushed hown1 HM.out; have HOWN := Lib.hid hown1; clear hown1)
      have HG := Lib.hid hgr
      have HA := Lib.hid hat2
      clear hgr hat2
      have HR := Lib.hid (row_push (b := UInt8.ofNat m) hb (by simp; omega) ((Below.refl _ wr).alloc (by omega) _) hown HG.out HOWN.out HM.out)
      have HE := Lib.hid (vrAt_last hat (by omega) rfl)
      go_wp2
      go_ret
      refine ⟨by rw [HE.out, le_one (by omega)]; rfl, ?_⟩
      obtain ⟨_, _, _, _, hb2, _⟩ := HR.out
      exact grown_of_below hb2
end Go.Proofs.YtacgmadgkmcmoaaGreatDoor
/- The document's reader for layer 2: numbers: one contract each. -/
namespace Go.Proofs.YtacgmadgkmcmoaaGreatDoor
open Go.RowKit
set_option linter.unusedVariables false

/-- The document's reader: its block: the text, how far it was read, the error. -/
def RfC (w : World) (g : Nat) (S : List UInt8) (p : Nat) (e : Int) : Prop := Cells w g 181 #[.string (str S), .int .i64 p, .int .i64 e] ∧ p ≤ S.length ∧ S.length ≤ 1099511627776
def Rf (w : World) (g : Nat) (l : List UInt8) (e : Int) : Prop := ∃ S p, RfC w g S p e ∧ (e = 0 → l = S.drop p) ∧ (e ≠ 0 → l = [])
def RfTo (w : World) (g : Nat) (l : List UInt8) (e : Int) (w' : World) : Prop := Rf w' g l e ∧ w.grownBy w' (some g)
theorem rf_to {w : World} {g : Nat} {l : List UInt8} {e : Int} (h : Rf w g l e) : RfTo w g l e w := ⟨h, grown_refl w _⟩
theorem rfTo_trans {w w1 w2 : World} {g : Nat} {l l2 : List UInt8} {e e2 : Int} (h : RfTo w g l e w1) (k : RfTo w1 g l2 e2 w2) : RfTo w g l2 e2 w2 := ⟨k.1, h.2.trans k.2⟩
section
variable {w : World} {g : Nat} {S : List UInt8} {p : Nat} {e : Int}
theorem rf_c0 (h : RfC w g S p e) : w.cell? ⟨g, 0, none⟩ = some (.string (str S)) := by rw [h.1.cell]; rfl
theorem rf_c1 (h : RfC w g S p e) : w.cell? ⟨g, 1, none⟩ = some (.int .i64 p) := by rw [h.1.cell]; rfl
theorem rf_c2 (h : RfC w g S p e) : w.cell? ⟨g, 2, none⟩ = some (.int .i64 e) := by rw [h.1.cell]; rfl
theorem rf_f (h : RfC w g S p e) (i : Nat) : w.frozen? ⟨g, i, none⟩ = false := h.1.frozen i
end
theorem grown_drewN (w : World) (n : Nat) (r : Option Nat) : w.grownBy (w.drewN n) r := ⟨rfl, rfl, rfl, Nat.le_refl _, fun _ _ _ => rfl⟩

theorem rfc_drewN {w : World} {g : Nat} {S : List UInt8} {p : Nat} {e : Int} (h : RfC w g S p e) (n : Nat) : RfC (w.drewN n) g S p e := h
theorem refFail (g p : Nat) (S : List UInt8) (e c : Int) (w : World) (h : RfC w g S p e) :
    Calls Tryz.prog 172 #[.pointer (some ⟨g, 0, none⟩), .int .i64 c] w fun E w' => E = .returned (.tuple #[]) ∧ RfC w' g S p (fin e c) ∧ w.grownBy w' (some g) := by
  have c2 := rf_c2 h
  have f2 := rf_f h 2
  by_cases he : e = 0
  · have hb : (e == 0) = true := beq_iff_eq.2 he
    have HE := Lib.hid he
    clear he
    go_enter Tryz.func172, Tryz.ntmps172
    go_wp2
    go_end0
    refine ⟨rfl, ⟨?_, h.2⟩, grown_set w g 2 _⟩
    have := h.1.set 2 (.int .i64 c)
    simpa [fin, HE.out] using this
  · have hb : (e == 0) = false := beq_eq_false_iff_ne.2 he
    have HE := Lib.hid he
    clear he
    go_enter Tryz.func172, Tryz.ntmps172
    go_wp2
    go_end0
    exact ⟨rfl, by rw [fin, if_neg HE.out]; exact h, grown_refl w _⟩

theorem un_drop (x : List UInt8) (j : Nat) (hj : j < x.length) : un (x.drop j) = (x[j]'hj).toNat + 256 * un (x.drop (j + 1)) := by
  rw [List.drop_eq_getElem_cons hj, un]
theorem un_drop_lt (x : List UInt8) (j : Nat) (h : x.length - j ≤ 7) : un (x.drop j) < 72057594037927936 := by
  refine Nat.lt_of_lt_of_le (un_lt _) ?_
  rw [List.length_drop]
  exact Nat.pow_le_pow_right (show 0 < 256 from by omega) h
theorem run_idx (S : List UInt8) (q : Nat) (hq : q < S.length) (w : World) : (Instr.index 9 (.string (str S)) (.int .i64 (q : Int))).run Tryz.prog w = .ok (.int .u8 ((S[q]'hq).toNat : Int)) w := by
  rw [run_index_string w _ _ _ _ Tryz.underlying9, dif_pos (by rw [str_size]; omega)]
  congr 1
/-- So many bytes read, from the last one on. -/
def NumBack (x : List UInt8) (n i : Value) : Prop := ∃ j : Nat, j ≤ x.length ∧ i = .int .i64 ((j : Int) - 1) ∧ n = .int .u64 (un (x.drop j))

set_option maxHeartbeats 1000000 in
set_option maxRecDepth 20000 in
theorem refNum_bad (g p k : Nat) (S : List UInt8) (e : Int) (w : World) (h : RfC w g S p e) (hk : k ≤ 8) (he : e ≠ 0) :
    Calls Tryz.prog 128 #[.pointer (some ⟨g, 0, none⟩), .int .i64 k] w fun E w' => E = .returned (.int .u64 0) ∧ RfC w' g S p e ∧ w.grownBy w' (some g) := by
  have c0 := rf_c0 h
  have c1 := rf_c1 h
  have c2 := rf_c2 h
  have hs := str_size S
  have hb : (e != 0) = true := by simp [he]
  have HE := Lib.hid he
  clear he
  go_enter Tryz.func128, Tryz.ntmps128
  go_wp2
  go_quiet (fail)
  go_wp2_with fail
  refine (refFail g p S e 10 _ (rfc_drewN h _)).mono ?_
  rintro E w' ⟨rfl, hw, hg⟩
  go_wp2
  go_ret
  refine ⟨rfl, ?_, (grown_drewN w _ _).trans hg⟩
  rwa [fin, if_neg HE.out] at hw
theorem refNum_torn (g p k : Nat) (S : List UInt8) (w : World) (h : RfC w g S p 0) (hk : k ≤ 8) (ht : S.length < p + k) :
    Calls Tryz.prog 128 #[.pointer (some ⟨g, 0, none⟩), .int .i64 k] w fun E w' => E = .returned (.int .u64 0) ∧ RfC w' g S p 10 ∧ w.grownBy w' (some g) := by
  have c0 := rf_c0 h
  have c1 := rf_c1 h
  have c2 := rf_c2 h
  have hs := str_size S
  have hp := h.2.1
  have hl := h.2.2
  have e1 : IntKind.i64.wrap ((S.length : Int) - (p : Int)) = (S.length : Int) - (p : Int) := IntWalk.i64_in _ (by omega)
  have e2 : decide ((S.length : Int) - (p : Int) < (k : Int)) = true := by simp; omega
  go_enter Tryz.func128, Tryz.ntmps128
  go_wp2
  go_quiet (fail)
  go_wp2_with fail
  refine (refFail g p S 0 10 _ (rfc_drewN h _)).mono ?_
  rintro E w' ⟨rfl, hw, hg⟩
  go_wp2
  go_ret
  exact ⟨rfl, hw, (grown_drewN w _ _).trans hg⟩
theorem refNum_good (g p k : Nat) (S : List UInt8) (w : World) (h : RfC w g S p 0) (hk : k ≤ 8) (ht : p + k ≤ S.length) :
    Calls Tryz.prog 128 #[.pointer (some ⟨g, 0, none⟩), .int .i64 k] w fun E w' => E = .returned (.int .u64 (un ((S.drop p).take k))) ∧ RfC w' g S (p + k) 0 ∧ w.grownBy w' (some g) := by
  have c0 := rf_c0 h
  have c1 := rf_c1 h
  have c2 := rf_c2 h
  have hs := str_size S
  have hp := h.2.1
  have hl := h.2.2
  have e1 : IntKind.i64.wrap ((S.length : Int) - (p : Int)) = (S.length : Int) - (p : Int) := IntWalk.i64_in _ (by omega)
  have e2 : decide ((S.length : Int) - (p : Int) < (k : Int)) = false := by simp; omega
  have hxl : ((S.drop p).take k).length = k := by simp; omega
  go_enter Tryz.func128, Tryz.ntmps128
  go_wp2
  go_quiet (fail)
  go_wp2
  clear e1 e2
  go_loopw [5, 6] (fun n i wr => NumBack ((S.drop p).take k) n i ∧ ∃ nq, wr = w.drewN nq) (fun _ i _ => ((intOf i) + 1).toNat)
  case atStart => exact ⟨⟨k, by omega, rfl, by rw [List.drop_of_length_le (by omega)]; rfl⟩, _, rfl⟩
  case round =>
    obtain ⟨⟨j, hj, rfl, rfl⟩, nq, rfl⟩ := hrel
    by_cases h0 : j = 0
    · subst h0
      have hz : (((0 : Nat) : Int) - 1) = -1 := by omega
      rw [hz]
      have hc := rfc_drewN h nq
      have c0 := rf_c0 hc
      have c1 := rf_c1 hc
      have f1 := rf_f hc 1
      go_wp2
      go_ret
      refine ⟨rfl, ⟨?_, by omega, h.2.2⟩, (grown_drewN w _ _).trans (grown_set _ g 1 _)⟩
      have := hc.1.set 1 (.int .i64 ((p : Int) + (k : Int)))
      simpa using this
    · have hc := rfc_drewN h nq
      have c0 := rf_c0 hc
      have c1 := rf_c1 hc
      have HU := Lib.hid (un_drop ((S.drop p).take k) (j - 1) (by omega))
      have hbn := un_drop_lt ((S.drop p).take k) j (by omega)
      rw [show j - 1 + 1 = j from by omega] at HU
      obtain ⟨q, hq⟩ : ∃ q : Nat, q = p + (j - 1) := ⟨_, rfl⟩
      have hqs : q < S.length := by omega
      have HI := Lib.hid (run_idx S q hqs)
      have HX := Lib.hid (show ((S.drop p).take k)[j - 1]'(by omega) = S[q]'hqs from by simp [hq])
      have e1 : IntKind.i64.wrap ((p : Int) + ((j : Int) - 1)) = (q : Int) := by rw [IntWalk.i64_in _ (by omega)]; omega
      have HQ := Lib.hid hq
      clear hq
      have HHJ := Lib.hid hj
      generalize hN : un (((S.drop p).take k).drop j) = N at *
      have HN := Lib.hid hN
      clear hN
      generalize hb : (S[q]'hqs) = b at *
      have hbb := b.toNat_lt
      have hidx := HI.out
      have e4 : IntKind.u64.wrap (256 * (N : Int)) = 256 * (N : Int) := u64_id _ (by omega) (by omega)
      have e6 : IntKind.u64.wrap (b.toNat : Int) = b.toNat := u64_id _ (by omega) (by omega)
      obtain ⟨M, hM⟩ : ∃ M : Nat, M = b.toNat + 256 * N := ⟨_, rfl⟩
      have e5 : IntKind.u64.wrap (256 * (N : Int) + (b.toNat : Int)) = (M : Int) := by rw [u64_id _ (by omega) (by omega)]; omega
      have HM := Lib.hid hM
      have HB := Lib.hid hb
      clear hM hb hbn
      go_wp2
      go_quiet (fail)
      clear e1 e4 e5 e6 hidx
      go_wp2
      go_roundw
      case rel => exact ⟨⟨j - 1, by have := HHJ.out; omega, by go_num, by rw [HU.out, HX.out, ← HM.out]⟩, _, rfl⟩
      case measure => simp [intOf]; omega

theorem refNum (g k : Nat) (l : List UInt8) (e : Int) (w : World) (h : Rf w g l e) (hk0 : 0 < k) (hk : k ≤ 8) :
    Calls Tryz.prog 128 #[.pointer (some ⟨g, 0, none⟩), .int .i64 k] w fun E w' => E = .returned (.int .u64 (num k l).val) ∧ RfTo w g (num k l).rest (fin e (num k l).err) w' := by
  obtain ⟨S, p, hc, h0, h1⟩ := h
  by_cases he : e = 0
  · subst he
    have hl := h0 rfl
    subst hl
    by_cases ht : p + k ≤ S.length
    · have hn : num k (S.drop p) = ⟨0, un ((S.drop p).take k), (S.drop p).drop k⟩ := by unfold num; rw [if_pos (by simp; omega)]
      rw [hn]
      refine (refNum_good g p k S w hc hk ht).mono ?_
      rintro E w' ⟨rfl, hw, hg⟩
      exact ⟨rfl, ⟨S, p + k, hw, fun _ => by rw [List.drop_drop], fun h => absurd rfl h⟩, hg⟩
    · have hn : num k (S.drop p) = ⟨10, 0, []⟩ := by unfold num; rw [if_neg (by simp; omega)]
      rw [hn]
      refine (refNum_torn g p k S w hc hk (by omega)).mono ?_
      rintro E w' ⟨rfl, hw, hg⟩
      exact ⟨rfl, ⟨S, p, hw, fun h => absurd h (by decide), fun _ => rfl⟩, hg⟩
  · have hl := h1 he
    subst hl
    have hn : num k [] = ⟨10, 0, []⟩ := by unfold num; rw [if_neg (by simp; omega)]
    rw [hn]
    refine (refNum_bad g p k S e w hc hk he).mono ?_
    rintro E w' ⟨rfl, hw, hg⟩
    exact ⟨rfl, ⟨S, p, by rw [fin, if_neg he]; exact hw, fun h => absurd h (by rw [fin, if_neg he]; exact he), fun _ => rfl⟩, hg⟩
end Go.Proofs.YtacgmadgkmcmoaaGreatDoor
/- The document's reader for layer 2: vars, texts, the rest: one contract each. -/
namespace Go.Proofs.YtacgmadgkmcmoaaGreatDoor
open Go.RowKit
set_option linter.unusedVariables false

/-- A round of the document's Var, at its head. -/
def RVarRel (w : World) (g : Nat) (l : List UInt8) (n by_ i : Value) (wr : World) : Prop :=
  ∃ (j m P : Nat) (li : List UInt8), i = .int .i64 ((j : Int) + 1) ∧ n = .int .u64 m ∧ by_ = .int .u64 P ∧ P = 2 ^ (7 * j) ∧ VdAt l j m li ∧ RfTo w g li 0 wr
theorem rf_e {w : World} {g : Nat} {l : List UInt8} {e : Int} (h : Rf w g l e) : w.cell? ⟨g, 2, none⟩ = some (.int .i64 e) := by
  obtain ⟨S, p, hc, _⟩ := h; exact rf_c2 hc
theorem rf_bad {w : World} {g : Nat} {l : List UInt8} {e : Int} (h : Rf w g l e) (he : e ≠ 0) : l = [] := by
  obtain ⟨S, p, hc, _, h1⟩ := h; exact h1 he
theorem refFail0 (g : Nat) (l : List UInt8) (c : Int) (w : World) (h : Rf w g l 0) (hc : c ≠ 0) :
    Calls Tryz.prog 172 #[.pointer (some ⟨g, 0, none⟩), .int .i64 c] w fun E w' => E = .returned (.tuple #[]) ∧ RfTo w g [] c w' := by
  obtain ⟨S, p, hcl, _⟩ := h
  refine (refFail g p S 0 c w hcl).mono ?_
  rintro E w' ⟨rfl, hw, hg⟩
  exact ⟨rfl, ⟨S, p, by rwa [fin_of] at hw, fun h => absurd h hc, fun _ => rfl⟩, hg⟩
theorem refOne_nil (g : Nat) (w : World) (h : Rf w g [] 0) :
    Calls Tryz.prog 128 #[.pointer (some ⟨g, 0, none⟩), .int .i64 1] w fun E w' => E = .returned (.int .u64 0) ∧ RfTo w g [] 10 w' := refNum g 1 [] 0 w h (by omega) (by omega)
theorem refOne_cons (g : Nat) (b : UInt8) (r : List UInt8) (w : World) (h : Rf w g (b :: r) 0) :
    Calls Tryz.prog 128 #[.pointer (some ⟨g, 0, none⟩), .int .i64 1] w fun E w' => E = .returned (.int .u64 b.toNat) ∧ RfTo w g r 0 w' := by
  have hn : num 1 (b :: r) = ⟨0, b.toNat, r⟩ := by simp [num, un]
  have := refNum g 1 (b :: r) 0 w h (by omega) (by omega)
  rw [hn] at this
  exact this

set_option maxHeartbeats 2000000 in
set_option maxRecDepth 20000 in
theorem refRVar_good (g : Nat) (l : List UInt8) (w : World) (h : Rf w g l 0) :
    Calls Tryz.prog 130 #[.pointer (some ⟨g, 0, none⟩)] w fun E w' => E = .returned (.int .u64 (vd 0 l).val) ∧ RfTo w g (vd 0 l).rest (vd 0 l).err w' := by
  go_enter Tryz.func130, Tryz.ntmps130
  go_wp2
  go_loopw [3, 4, 5, 6] (fun n y i _ wr => RVarRel w g l n y i wr) (fun _ _ i _ _ => 11 - (intOf i).toNat)
  case atStart => exact ⟨0, 0, 1, l, rfl, rfl, rfl, rfl, vdAt_start l, rf_to h⟩
  case round =>
    obtain ⟨j, m, P, li, rfl, rfl, rfl, hP, hat, hto⟩ := hrel
    have HP := Lib.hid hP
    clear hP
    have hi9 := hat.1
    have c2 := rf_e hto.1
    cases li with
    | nil =>
      have HV := Lib.hid (vdAt_nil hat)
      go_wp2_with fail
      refine (refOne_nil g _ hto.1).mono ?_
      rintro E w1 ⟨rfl, hw1⟩
      have ce := rf_e hw1.1
      have HW := Lib.hid (rfTo_trans hto hw1)
      clear hw1
      go_wp2
      go_ret
      exact ⟨by rw [HV.out]; rfl, by rw [HV.out]; exact HW.out⟩
    | cons b r =>
      have hbb := b.toNat_lt
      by_cases hc : vf j b.toNat = 0
      · have hfacts : (j = 9 → b.toNat = 1) ∧ (b.toNat = 0 → j = 0) := by
          unfold vf at hc
          split at hc
          · omega
          · split at hc
            · omega
            · omega
        obtain ⟨hf1, hf2⟩ := hfacts
        have HL := Lib.hid (fun hb : b.toNat < 128 => vdAt_last hat hc hb)
        have HX := Lib.hid (fun hb : 128 ≤ b.toNat => vdAt_next hat hc hb)
        have hlt := var_lt hat.1 hat.2.1 hbb hc
        rw [← HP.out] at hlt
        obtain ⟨A, hA⟩ : ∃ A : Nat, A = b.toNat % 128 * P := ⟨_, rfl⟩
        obtain ⟨M, hM⟩ : ∃ M : Nat, M = m + A := ⟨_, rfl⟩
        have hAl : A < 18446744073709551616 := by rw [Nat.mul_comm, ← hA] at hlt; omega
        have hMl : M < 18446744073709551616 := by rw [Nat.mul_comm, ← hA] at hlt; omega
        have e1 : IntKind.u64.wrap ((b.toNat : Int) % 128 * (P : Int)) = (A : Int) := by
          rw [show ((b.toNat : Int) % 128 * (P : Int)) = (A : Int) from by rw [hA]; push_cast; rfl]; exact u64_id _ (by omega) (by omega)
        have e2 : IntKind.u64.wrap ((m : Int) + (A : Int)) = (M : Int) := by
          rw [show ((m : Int) + (A : Int)) = (M : Int) from by rw [hM]; push_cast; rfl]; exact u64_id _ (by omega) (by omega)
        have HC := Lib.hid hc
        have HA := Lib.hid hA
        have HM := Lib.hid hM
        clear hc hat hA hM hAl hMl hlt
        go_wp2_with fail
        refine (refOne_cons g b r _ hto.1).mono ?_
        rintro E w1 ⟨rfl, hw1⟩
        have ce := rf_e hw1.1
        have HW := Lib.hid (rfTo_trans hto hw1)
        clear hw1
        by_cases h9 : j = 9
        · have hb1 := hf1 h9
          have hb : b.toNat < 128 := by omega
          subst h9
          have hb0 : ((b.toNat : Int) == 0) = false := by simp; omega
          have hle : b.toNat ≤ 1 := by omega
          have HB1 := Lib.hid hb1
          clear hb1 hf1 hf2
          have HE := Lib.hid (HL.out hb)
          go_wp2
          go_ret
          refine ⟨by rw [HE.out, HM.out, HA.out, HP.out, Nat.mod_eq_of_lt hb, Nat.mul_comm]; rfl, ?_⟩
          rw [HE.out]
          exact HW.out
        · have h10 : (((j : Int) + 1) == 10) = false := by simp; omega
          by_cases hz : b.toNat = 0
          · have hj0 := hf2 hz
            have hb : b.toNat < 128 := by omega
            have hb0 : ((b.toNat : Int) == 0) = true := by simp; omega
            subst hj0
            clear hf1 hf2
            have HZ := Lib.hid hz
            clear hz
            have HE := Lib.hid (HL.out hb)
            go_wp2
            go_ret
            refine ⟨by rw [HE.out, HM.out, HA.out, HP.out, Nat.mod_eq_of_lt hb, Nat.mul_comm]; rfl, ?_⟩
            rw [HE.out]
            exact HW.out
          · have hb0 : ((b.toNat : Int) == 0) = false := by simp; omega
            clear hf1 hf2
            by_cases hb : b.toNat < 128
            · have HE := Lib.hid (HL.out hb)
              go_wp2
              go_ret
              refine ⟨by rw [HE.out]; show _ = Ending.returned (.int .u64 ((m + 2 ^ (7 * j) * b.toNat : Nat) : Int)); rw [← HP.out, Nat.mul_comm, ← Nat.mod_eq_of_lt hb, ← HA.out, ← HM.out]; rfl, ?_⟩
              rw [HE.out]
              exact HW.out
            · have HE := Lib.hid (HX.out (by omega))
              have hj9 : j < 9 := by omega
              have HPP := Lib.hid (show P * 128 = 2 ^ (7 * (j + 1)) from by rw [HP.out, show 7 * (j + 1) = 7 * j + 7 from by omega, Nat.pow_add])
              have hPl : P * 128 < 18446744073709551616 := by
                rw [HPP.out]
                exact Nat.lt_of_le_of_lt (Nat.pow_le_pow_right (n := 2) (by omega) (show 7 * (j + 1) ≤ 63 from by omega)) (by decide)
              obtain ⟨P2, hP2⟩ : ∃ P2 : Nat, P2 = P * 128 := ⟨_, rfl⟩
              have e3 : IntKind.u64.wrap ((P : Int) * 128) = (P2 : Int) := by
                rw [show ((P : Int) * 128) = (P2 : Int) from by rw [hP2]; push_cast; rfl]; exact u64_id _ (by omega) (by omega)
              have HP2 := Lib.hid hP2
              clear hP2 hPl
              go_wp2
              go_roundw
              case rel => exact ⟨j + 1, M, P2, r, by go_num, rfl, rfl, by rw [HP2.out, HPP.out], by rw [HM.out, HA.out, HP.out, Nat.mul_comm]; exact HE.out, HW.out⟩
              case measure => simp [intOf]; omega
      · have HE := Lib.hid (vdAt_fault hat hc)
        clear hat
        by_cases h9 : j = 9
        · subst h9
          by_cases h1 : 1 < b.toNat
          · have HVF := Lib.hid (show vf 9 b.toNat = 3 from by simp [vf, h1])
            clear hc
            go_wp2_with fail
            refine (refOne_cons g b r _ hto.1).mono ?_
            rintro E w1 ⟨rfl, hw1⟩
            have ce := rf_e hw1.1
            have HW := Lib.hid (rfTo_trans hto hw1)
            have hr1 := hw1.1
            clear hw1
            go_wp2_with fail
            refine (refFail0 g r 3 _ hr1 (by decide)).mono ?_
            rintro E w2 ⟨rfl, hw2⟩
            have HW2 := Lib.hid (rfTo_trans HW.out hw2)
            clear hw2
            go_wp2
            go_ret
            exact ⟨by rw [HE.out, HVF.out]; rfl, by rw [HE.out, HVF.out]; exact HW2.out⟩
          · have hz : b.toNat = 0 := by
              unfold vf at hc
              split at hc
              · omega
              · split at hc
                · omega
                · omega
            have HVF := Lib.hid (show vf 9 b.toNat = 4 from by simp [vf, hz])
            have hb0 : ((b.toNat : Int) == 0) = true := by simp; omega
            have HZ := Lib.hid hz
            clear hc hz
            go_wp2_with fail
            refine (refOne_cons g b r _ hto.1).mono ?_
            rintro E w1 ⟨rfl, hw1⟩
            have ce := rf_e hw1.1
            have HW := Lib.hid (rfTo_trans hto hw1)
            have hr1 := hw1.1
            clear hw1
            go_wp2_with fail
            refine (refFail0 g r 4 _ hr1 (by decide)).mono ?_
            rintro E w2 ⟨rfl, hw2⟩
            have HW2 := Lib.hid (rfTo_trans HW.out hw2)
            clear hw2
            go_wp2
            go_ret
            exact ⟨by rw [HE.out, HVF.out]; rfl, by rw [HE.out, HVF.out]; exact HW2.out⟩
        · have h10 : (((j : Int) + 1) == 10) = false := by simp; omega
          have hz : b.toNat = 0 ∧ 0 < j := by
            unfold vf at hc
            split at hc
            · omega
            · split at hc
              · omega
              · omega
          have HVF := Lib.hid (show vf j b.toNat = 4 from by unfold vf; rw [if_neg (by omega), if_pos (by omega)])
          have hb0 : ((b.toNat : Int) == 0) = true := by simp; omega
          have hj := hz.2
          clear hc hz
          go_wp2_with fail
          refine (refOne_cons g b r _ hto.1).mono ?_
          rintro E w1 ⟨rfl, hw1⟩
          have ce := rf_e hw1.1
          have HW := Lib.hid (rfTo_trans hto hw1)
          have hr1 := hw1.1
          clear hw1
          go_wp2_with fail
          refine (refFail0 g r 4 _ hr1 (by decide)).mono ?_
          rintro E w2 ⟨rfl, hw2⟩
          have HW2 := Lib.hid (rfTo_trans HW.out hw2)
          clear hw2
          go_wp2
          go_ret
          exact ⟨by rw [HE.out, HVF.out]; rfl, by rw [HE.out, HVF.out]; exact HW2.out⟩
theorem refRVar (g : Nat) (l : List UInt8) (e : Int) (w : World) (h : Rf w g l e) :
    Calls Tryz.prog 130 #[.pointer (some ⟨g, 0, none⟩)] w fun E w' => E = .returned (.int .u64 (vd 0 l).val) ∧ RfTo w g (vd 0 l).rest (fin e (vd 0 l).err) w' := by
  by_cases he : e = 0
  · subst he
    rw [fin_of]
    exact refRVar_good g l w h
  · have hl := rf_bad h he
    subst hl
    have hb : (e == 0) = false := beq_eq_false_iff_ne.2 he
    have c2 := rf_e h
    have HE := Lib.hid he
    clear he
    go_enter Tryz.func130, Tryz.ntmps130
    go_wp2
    go_loopw [3, 4, 5, 6] (fun n y i _ wr => wr = w) (fun _ _ _ _ _ => 0)
    case atStart => rfl
    case round =>
      subst hrel
      go_wp2
      go_ret
      refine ⟨rfl, ?_⟩
      rw [fin, if_neg HE.out]
      exact rf_to h
end Go.Proofs.YtacgmadgkmcmoaaGreatDoor
/- The document's reader for layer 2: texts, the rest, the errors: one contract each. -/
namespace Go.Proofs.YtacgmadgkmcmoaaGreatDoor
open Go.RowKit
set_option linter.unusedVariables false

theorem cells_put {w : World} {g i : Nat} {t : TypeId} {cs cs' : Array Value} {v : Value} (h : Cells w g t cs) (n : Nat) (he : cs.setIfInBounds i v = cs') : Cells ((w.drewN n).setCell ⟨g, i, none⟩ v) g t cs' :=
  he ▸ Cells.set (w := w.drewN n) h i v
theorem refRest (g : Nat) (l : List UInt8) (e : Int) (w : World) (h : Rf w g l e) :
    Calls Tryz.prog 131 #[.pointer (some ⟨g, 0, none⟩)] w fun E w' => E = .returned (.string (str l)) ∧ w.grownBy w' none := by
  obtain ⟨S, p, hc, h0, h1⟩ := h
  have c0 := rf_c0 hc
  have c1 := rf_c1 hc
  have c2 := rf_c2 hc
  have hs := str_size S
  have hp := hc.2.1
  have hl := hc.2.2
  by_cases he : e = 0
  · have hb : (e != 0) = false := by simp [he]
    have HL := Lib.hid (h0 he)
    have HX := Lib.hid (str_rest S p)
    clear he h0 h1
    go_enter Tryz.func131, Tryz.ntmps131
    go_wp2
    go_quiet (fail)
    go_wp2
    go_ret
    exact ⟨by rw [HL.out, ← HX.out]; rfl, grown_drewN w _ _⟩
  · have hb : (e != 0) = true := by simp [he]
    have HL := Lib.hid (h1 he)
    clear he h0 h1
    go_enter Tryz.func131, Tryz.ntmps131
    go_wp2
    go_ret
    exact ⟨by rw [HL.out]; rfl, grown_refl w _⟩

end Go.Proofs.YtacgmadgkmcmoaaGreatDoor
