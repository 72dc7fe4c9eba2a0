/- Texts of elder layers, one behind the other. -/
import Derived.WalkKit
import Derived.ProofKit
import Derived.OpenShut
import Derived.Handy
import Derived.Lib.Hide
import Derived.Lib.AppendStr
import Derived.Lib.ConvBytes
import Derived.Laws.OwnMore
import Derived.Laws.IdiomStrings
import Derived.Deep.AppendLies
import Derived.Deep.Draws
import Derived.Laws.BitsAllLaws
import Derived.Test.YtgmbdadkahcpcaaDoorRows
import Derived.BigQuiet
import Derived.Deep.LoopGhost
import Derived.Deep.RegionLaw
import Derived.Lib.BufferRead
import Derived.Deep.QuietTactic
/- Words on memory: strings as lists of bytes, a block that is known whole, what a step may turn. Nothing of the program. -/
namespace Go.Proofs.YtgmbdadkahcpcaaDoor
open Go.RowKit
set_option linter.unusedVariables false

/-- A string out of its bytes, behind a name. -/
def str (l : List UInt8) : ByteArray := ⟨l.toArray⟩
theorem str_size (l : List UInt8) : (str l).size = l.length := by simp [str, ByteArray.size]
theorem str_nil : str [] = ⟨#[]⟩ := rfl
theorem str_data (l : List UInt8) : (str l).data.toList = l := by simp [str]
theorem str_of (s : ByteArray) : s = str s.data.toList := by cases s; simp [str]
theorem str_inj {a b : List UInt8} (h : str a = str b) : a = b := by rw [← str_data a, h, str_data]
theorem str_extract (l : List UInt8) (a b : Nat) : (str l).extract a b = str ((l.take b).drop a) := by
  rw [str_of ((str l).extract a b)]
  congr 1
  simp [str, ByteArray.data_extract, List.drop_take]
theorem str_cut (l : List UInt8) (n : Nat) : (str l).extract 0 n = str (l.take n) := by rw [str_extract]; rfl
theorem str_rest (l : List UInt8) (n : Nat) : (str l).extract n l.length = str (l.drop n) := by rw [str_extract, List.take_length]
theorem str_append (a b : List UInt8) : str a ++ str b = str (a ++ b) := by
  rw [str_of (str a ++ str b)]; simp [str]

/-- A byte as a value. -/
def bv (b : UInt8) : Value := .int .u8 b.toNat
def bvs (l : List UInt8) : List Value := l.map bv
theorem bvs_length (l : List UInt8) : (bvs l).length = l.length := by simp [bvs]
theorem bvs_append (a b : List UInt8) : bvs (a ++ b) = bvs a ++ bvs b := by simp [bvs]
theorem bvs_str (l : List UInt8) : Lib.strCells (str l) = bvs l := by simp [Lib.strCells, bvs, bv, str]

/-- Block g holds just these cells, of element type t, none of them frozen. -/
def Cells (w : World) (g : Nat) (t : TypeId) (cs : Array Value) : Prop := w.heap[g]? = some (.cells cs t (0, 0))

section
variable {w w' : World} {g : Nat} {t : TypeId} {cs : Array Value}
theorem Cells.lt (h : Cells w g t cs) : g < w.heap.size := by
  unfold Cells at h
  exact (Array.getElem?_eq_some_iff.1 h).1
theorem Cells.cell (h : Cells w g t cs) (i : Nat) : w.cell? ⟨g, i, none⟩ = cs[i]? := cell_of_row w g i cs t (0, 0) h
theorem Cells.frozen (h : Cells w g t cs) (i : Nat) : w.frozen? ⟨g, i, none⟩ = false := by
  unfold Cells at h
  simp [World.frozen?, h]
theorem Cells.made (w : World) (t : TypeId) (cs : Array Value) : Cells (w.alloc (.cells cs t)) w.heap.size t cs := heap_alloc_new w _
theorem Cells.alloc (h : Cells w g t cs) (o : Obj) : Cells (w.alloc o) g t cs := (Below.heap_alloc w o g h.lt).trans h
theorem Cells.drew (h : Cells w g t cs) : Cells w.drew g t cs := h
theorem Cells.set (h : Cells w g t cs) (i : Nat) (u : Value) : Cells (w.setCell ⟨g, i, none⟩ u) g t (cs.setIfInBounds i u) := by
  unfold Cells at h ⊢
  simp [World.setCell, Array.getElem?_modify, h]
theorem Cells.far (h : Cells w g t cs) {p : Addr} (hp : g ≠ p.block) (u : Value) : Cells (w.setCell p u) g t cs := (Below.heap_setCell w p u g hp).trans h
theorem Cells.below {B : Nat} (h : Cells w g t cs) (hb : Below B w w') (hg : g < B) : Cells w' g t cs := (hb.block g hg).trans h
theorem Cells.grown {row : Option Nat} (h : Cells w g t cs) (hb : w.grownBy w' row) (hg : some g ≠ row) : Cells w' g t cs := (hb.block g h.lt hg).trans h
theorem Cells.unlike {g' : Nat} {t' : TypeId} {cs' : Array Value} (h : Cells w g t cs) (h' : Cells w g' t' cs') (hne : t ≠ t') : g ≠ g' := by
  rintro rfl
  unfold Cells at h h'
  rw [h] at h'
  simp at h'
  exact hne h'.2
theorem row_unlike {base : Nat} {e : TypeId} {size n : Nat} {v : Value} {xs : List Value} (h : w.ownsRow base e size v n xs) (hg : Cells w g t cs) (hne : e ≠ t) : v.ownBlock ≠ some g := by
  rcases h.2 with ⟨rfl, _⟩ | ⟨g', cap, cur, rfl, _, hh, _⟩
  · simp [Value.ownBlock]
  · intro he
    have : g' = g := by simpa [Value.ownBlock] using he
    subst this
    exact Cells.unlike (t := e) hh hg hne rfl
end

theorem grown_refl (w : World) (r : Option Nat) : w.grownBy w r := World.grownBy.refl w r
theorem grown_set (w : World) (g i : Nat) (u : Value) : w.grownBy (w.setCell ⟨g, i, none⟩ u) (some g) :=
  ⟨rfl, rfl, rfl, by simp [World.setCell], fun k _ hk => Below.heap_setCell w _ u k (fun e => hk (by rw [e]))⟩
theorem grown_bytes (w : World) (e : TypeId) (s : ByteArray) (r : Option Nat) : w.grownBy (Lib.bytesWorld w e s) r :=
  ⟨rfl, rfl, rfl, by rw [Lib.bytesWorld_size]; omega, fun k hk _ => Lib.bytesWorld_at_old w e s k hk⟩
theorem grown_below {w w' : World} {B g : Nat} (h : w.grownBy w' (some g)) (hg : B ≤ g) (hB : B ≤ w.heap.size) : Below B w w' :=
  (Below.refl B w).grown h hB (fun k e => by cases e; exact hg)
theorem below_row {w w' : World} {B : Nat} {e : TypeId} {size : Nat} {v : Value} {n : Nat} {xs : List Value} {base : Nat} (h : w.ownsRow base e size v n xs) (hb : w.grownBy w' (some B)) (hB : B < base) : w'.ownsRow base e size v n xs :=
  h.kept hb (by
    rcases h.2 with ⟨rfl, _⟩ | ⟨g', cap, cur, rfl, hg, _⟩
    · exact .inl rfl
    · exact .inr (by simp [Value.ownBlock]; omega))
theorem grown_nb {w w' : World} {B : Nat} {r : Option Nat} (h : w.grownBy w' r) (hr : ∀ k, r = some k → B ≤ k) (hB : B ≤ w.heap.size) : Below B w w' :=
  (Below.refl B w).grown h hB hr
end Go.Proofs.YtgmbdadkahcpcaaDoor
/- Numbers and strings as bytes: the plain mathematics of layer 2. Nothing of the program. -/
namespace Go.Proofs.YtgmbdadkahcpcaaDoor
open Go.RowKit
set_option linter.unusedVariables false

/-- k bytes of a number, the lowest first. -/
def le : Nat → Nat → List UInt8
  | 0, _ => []
  | k + 1, n => UInt8.ofNat (n % 256) :: le k (n / 256)
/-- The number that bytes are. -/
def un : List UInt8 → Nat
  | [] => 0
  | b :: r => b.toNat + 256 * un r
/-- The bytes of a var; the first argument bounds their count. -/
def vrF : Nat → Nat → List UInt8
  | 0, n => [UInt8.ofNat n]
  | f + 1, n => if n < 128 then [UInt8.ofNat n] else UInt8.ofNat (n % 128 + 128) :: vrF f (n / 128)
def vr (n : Nat) : List UInt8 := vrF 9 n
def tx (s : List UInt8) : List UInt8 := vr s.length ++ s

/-- What reading gives: the error (0: none), the value, what is left. -/
structure Got (α : Type) where
  err : Int
  val : α
  rest : List UInt8
def tk (n : Nat) (l : List UInt8) : Got (List UInt8) := if n ≤ l.length then ⟨0, l.take n, l.drop n⟩ else ⟨10, [], []⟩
def num (k : Nat) (l : List UInt8) : Got Nat := if k ≤ l.length then ⟨0, un (l.take k), l.drop k⟩ else ⟨10, 0, []⟩
def vd : Nat → List UInt8 → Got Nat
  | _, [] => ⟨10, 0, []⟩
  | i, b :: r =>
    if i = 9 ∧ 1 < b.toNat then ⟨3, 0, []⟩
    else if 0 < i ∧ b.toNat = 0 then ⟨4, 0, []⟩
    else if b.toNat < 128 then ⟨0, b.toNat, r⟩
    else if (vd (i + 1) r).err = 0 then ⟨0, b.toNat % 128 + 128 * (vd (i + 1) r).val, (vd (i + 1) r).rest⟩
    else ⟨(vd (i + 1) r).err, 0, []⟩
def txd (l : List UInt8) : Got (List UInt8) := if (vd 0 l).err = 0 then tk (vd 0 l).val (vd 0 l).rest else ⟨(vd 0 l).err, [], []⟩
/-- The error behind an error. -/
def fin (e c : Int) : Int := if e = 0 then c else e

theorem fin_zero (e : Int) : fin e 0 = e := by unfold fin; split <;> omega
theorem fin_fin (e c d : Int) : fin (fin e c) d = fin e (fin c d) := by unfold fin; (repeat' split) <;> omega
theorem fin_of (c : Int) : fin 0 c = c := by simp [fin]

theorem tk_err {n : Nat} {l : List UInt8} (h : (tk n l).err ≠ 0) : (tk n l).rest = [] := by
  unfold tk at h ⊢; split <;> simp_all
theorem num_err {n : Nat} {l : List UInt8} (h : (num n l).err ≠ 0) : (num n l).rest = [] ∧ (num n l).val = 0 := by
  unfold num at h ⊢; split <;> simp_all
theorem vd_err : ∀ {l : List UInt8} {i : Nat}, (vd i l).err ≠ 0 → (vd i l).rest = [] ∧ (vd i l).val = 0
  | [], i, _ => by simp [vd]
  | b :: r, i, h => by
    unfold vd at h ⊢
    (repeat' split) <;> simp_all
theorem tk_len (n : Nat) (l : List UInt8) : (tk n l).rest.length ≤ l.length ∧ (tk n l).val.length ≤ l.length := by
  unfold tk; split <;> simp [Nat.min_le_right]
theorem num_len (n : Nat) (l : List UInt8) : (num n l).rest.length ≤ l.length := by
  unfold num; split <;> simp
theorem vd_len : ∀ (l : List UInt8) (i : Nat), (vd i l).rest.length ≤ l.length
  | [], i => by simp [vd]
  | b :: r, i => by
    have := vd_len r (i + 1)
    unfold vd
    (repeat' split) <;> simp <;> omega
theorem un_lt : ∀ (l : List UInt8), un l < 256 ^ l.length
  | [] => by simp [un]
  | b :: r => by
    have := un_lt r
    have hb := b.toNat_lt
    simp only [un, List.length_cons, Nat.pow_succ]
    omega
theorem un_append : ∀ (a b : List UInt8), un (a ++ b) = un a + 256 ^ a.length * un b
  | [], b => by simp [un]
  | x :: a, b => by
    simp only [List.cons_append, un, un_append a b, List.length_cons, Nat.pow_succ]
    rw [Nat.mul_add, Nat.mul_comm (256 ^ a.length) 256, Nat.mul_assoc]
    omega
theorem un_le : ∀ (k n : Nat), un (le k n) = n % 256 ^ k
  | 0, n => by simp [un, le, Nat.mod_one]
  | k + 1, n => by
    have h : (UInt8.ofNat (n % 256)).toNat = n % 256 := by simp
    simp only [le, un, un_le k, h, Nat.pow_succ]
    rw [Nat.mul_comm (256 ^ k) 256, Nat.mod_mul]
theorem le_length : ∀ (k n : Nat), (le k n).length = k
  | 0, _ => rfl
  | k + 1, n => by simp [le, le_length k]
theorem le_un : ∀ (l : List UInt8), le l.length (un l) = l
  | [] => rfl
  | b :: r => by
    have hb := b.toNat_lt
    simp only [List.length_cons, le, un]
    rw [show (b.toNat + 256 * un r) / 256 = un r from by omega, le_un r, show (b.toNat + 256 * un r) % 256 = b.toNat from by omega]
    simp
theorem vrF_pos (f n : Nat) : 0 < (vrF f n).length := by
  cases f <;> unfold vrF <;> (try split) <;> simp
theorem vrF_len : ∀ (f n : Nat), (vrF f n).length ≤ f + 1
  | 0, n => by simp [vrF]
  | f + 1, n => by
    have := vrF_len f (n / 128)
    unfold vrF
    split <;> simp <;> omega
theorem vr_len (n : Nat) : 0 < (vr n).length ∧ (vr n).length ≤ 10 := ⟨vrF_pos 9 n, vrF_len 9 n⟩

/-- What is written is read. -/
theorem vd_vrF : ∀ (f i n : Nat) (more : List UInt8), i + f = 9 → n < 2 ^ (64 - 7 * i) → (0 < i → 0 < n) → vd i (vrF f n ++ more) = ⟨0, n, more⟩
  | 0, i, n, more, hi, hn, h0 => by
    have hi9 : i = 9 := by omega
    subst hi9
    have hn2 : n < 2 := by simpa using hn
    have ht : (UInt8.ofNat n).toNat = n := by simp; omega
    have := h0 (by omega)
    have h1 : n = 1 := by omega
    subst h1
    simp [vrF, vd]
  | f + 1, i, n, more, hi, hn, h0 => by
    unfold vrF
    by_cases h : n < 128
    · rw [if_pos h]
      have ht : (UInt8.ofNat n).toNat = n := by simp; omega
      simp only [List.cons_append, List.nil_append, vd, ht]
      rw [if_neg (by omega), if_neg (by omega), if_pos h]
    · rw [if_neg h]
      have ht : (UInt8.ofNat (n % 128 + 128)).toNat = n % 128 + 128 := by simp; omega
      have hp : 2 ^ (64 - 7 * i) = 2 ^ (64 - 7 * (i + 1)) * 128 := by
        rw [show 64 - 7 * i = (64 - 7 * (i + 1)) + 7 from by omega, Nat.pow_add]
      have hn' : n / 128 < 2 ^ (64 - 7 * (i + 1)) := by
        rw [hp] at hn
        exact Nat.div_lt_of_lt_mul (by rw [Nat.mul_comm]; exact hn)
      have ih := vd_vrF f (i + 1) (n / 128) more (by omega) hn' (by omega)
      simp only [List.cons_append, vd, ht, ih]
      rw [if_neg (by omega), if_neg (by omega), if_neg (by omega)]
      simp
      omega
theorem vd_vr (n : Nat) (more : List UInt8) (hn : n < 18446744073709551616) : vd 0 (vr n ++ more) = ⟨0, n, more⟩ :=
  vd_vrF 9 0 n more rfl (by simpa using hn) (by omega)
/-- A proper beginning of a var lacks bytes. -/
theorem vd_vrF_cut : ∀ (f i n : Nat) (p s : List UInt8), vrF f n = p ++ s → s ≠ [] → i + f ≤ 9 → vd i p = ⟨10, 0, []⟩
  | 0, i, n, p, s, he, hs, hi => by
    unfold vrF at he
    cases p with
    | nil => simp [vd]
    | cons b p => simp at he; exact absurd he.2.2 hs
  | f + 1, i, n, p, s, he, hs, hi => by
    unfold vrF at he
    by_cases h : n < 128
    · rw [if_pos h] at he
      cases p with
      | nil => simp [vd]
      | cons b p => simp at he; exact absurd he.2.2 hs
    · rw [if_neg h] at he
      cases p with
      | nil => simp [vd]
      | cons b p =>
        simp only [List.cons_append, List.cons.injEq] at he
        obtain ⟨rfl, he⟩ := he
        have ht : (UInt8.ofNat (n % 128 + 128)).toNat = n % 128 + 128 := by simp; omega
        have ih := vd_vrF_cut f (i + 1) (n / 128) p s he hs (by omega)
        simp only [vd, ht, ih]
        rw [if_neg (by omega), if_neg (by omega), if_neg (by omega), if_neg (by omega)]
/-- What was read is what it is written as. -/
theorem vrF_vd : ∀ (f i : Nat) (l : List UInt8), i + f = 9 → (vd i l).err = 0 → l = vrF f (vd i l).val ++ (vd i l).rest ∧ (0 < i → 0 < (vd i l).val) ∧ (vd i l).val < 2 ^ (64 - 7 * i)
  | f, i, [], hi, h => by simp [vd] at h
  | 0, i, b :: r, hi, h => by
    have hi9 : i = 9 := by omega
    subst hi9
    unfold vd at h ⊢
    by_cases h1 : (9 = 9 ∧ 1 < b.toNat)
    · rw [if_pos h1] at h; simp at h
    · rw [if_neg h1] at h ⊢
      by_cases h2 : (0 < 9 ∧ b.toNat = 0)
      · rw [if_pos h2] at h; simp at h
      · rw [if_neg h2] at h ⊢
        rw [if_pos (by omega)]
        simp [vrF]
        omega
  | f + 1, i, b :: r, hi, h => by
    have hb := b.toNat_lt
    unfold vd at h ⊢
    by_cases h1 : (i = 9 ∧ 1 < b.toNat)
    · rw [if_pos h1] at h; simp at h
    · rw [if_neg h1] at h ⊢
      by_cases h2 : (0 < i ∧ b.toNat = 0)
      · rw [if_pos h2] at h; simp at h
      · rw [if_neg h2] at h ⊢
        by_cases h3 : b.toNat < 128
        · rw [if_pos h3]
          have hp : 2 ^ 7 ≤ 2 ^ (64 - 7 * i) := Nat.pow_le_pow_right (by omega) (by omega)
          refine ⟨by simp [vrF, h3], fun hi0 => ?_, Nat.lt_of_lt_of_le (show b.toNat < 2 ^ 7 from by simpa using h3) hp⟩
          show 0 < b.toNat
          omega
        · rw [if_neg h3] at h ⊢
          by_cases h4 : (vd (i + 1) r).err = 0
          · rw [if_pos h4]
            obtain ⟨e1, e2, e3⟩ := vrF_vd f (i + 1) r (by omega) h4
            have hp : 2 ^ (64 - 7 * i) = 2 ^ (64 - 7 * (i + 1)) * 128 := by
              rw [show 64 - 7 * i = (64 - 7 * (i + 1)) + 7 from by omega, Nat.pow_add]
            have hv := e2 (by omega)
            refine ⟨?_, fun _ => by show 0 < b.toNat % 128 + 128 * _; omega, by show b.toNat % 128 + 128 * _ < _; rw [hp]; omega⟩
            show b :: r = vrF (f + 1) (b.toNat % 128 + 128 * (vd (i + 1) r).val) ++ (vd (i + 1) r).rest
            unfold vrF
            rw [if_neg (by omega), show (b.toNat % 128 + 128 * (vd (i + 1) r).val) / 128 = (vd (i + 1) r).val from by omega, List.cons_append, ← e1,
              show (b.toNat % 128 + 128 * (vd (i + 1) r).val) % 128 + 128 = b.toNat from by omega]
            simp
          · rw [if_neg h4] at h
            exact absurd h h4
theorem vr_vd (l : List UInt8) (h : (vd 0 l).err = 0) : l = vr (vd 0 l).val ++ (vd 0 l).rest ∧ (vd 0 l).val < 18446744073709551616 := by
  obtain ⟨a, _, c⟩ := vrF_vd 9 0 l rfl h
  exact ⟨a, by simpa using c⟩
theorem u64_id (n : Int) (h : 0 ≤ n) (h2 : n < 18446744073709551616) : IntKind.u64.wrap n = n := by
  simp [IntKind.wrap, IntKind.bits, IntKind.signed]; omega
/-- A number's next group is laid over those ahead of it. -/
theorem or_sh (a b s : Nat) (hs64 : s < 64) (ha : a < 2 ^ s) (hb : b * 2 ^ s < 18446744073709551616) : bits .or .u64 (a : Int) (IntKind.u64.wrap (IntKind.u64.wrap (b : Int) * 2 ^ s)) = ((a + 2 ^ s * b : Nat) : Int) := by
  have hp : 0 < 2 ^ s := Nat.two_pow_pos s
  have hb1 : b ≤ b * 2 ^ s := Nat.le_mul_of_pos_right b hp
  have hs : 2 ^ s ≤ 2 ^ 63 := Nat.pow_le_pow_right (by omega) (by omega)
  have e1 : IntKind.u64.wrap (b : Int) = b := u64_id _ (by omega) (by omega)
  have e2 : ((b : Int) * 2 ^ s) = ((b * 2 ^ s : Nat) : Int) := by push_cast; rfl
  rw [e1, e2, u64_id _ (by omega) (by omega)]
  rw [u64_or_nat _ _ (by omega) hb, Nat.or_comm, nat_join s _ _ (Nat.mul_mod_left _ _) ha, Nat.mul_comm b]
  congr 1
  omega
theorem un_step (x : List UInt8) (k : Nat) (hk : k < x.length) (h8 : x.length ≤ 8) :
    bits .or .u64 (un (x.take k) : Int) (IntKind.u64.wrap (IntKind.u64.wrap ((x[k]'hk).toNat : Int) * 2 ^ (8 * k))) = (un (x.take (k + 1)) : Int) := by
  have h1 := un_lt (x.take k)
  have hb := (x[k]'hk).toNat_lt
  have hp : 256 ^ k = 2 ^ (8 * k) := by rw [show (256 : Nat) = 2 ^ 8 from rfl, ← Nat.pow_mul]
  have hp2 : 2 ^ (8 * k) ≤ 2 ^ 56 := Nat.pow_le_pow_right (by omega) (by omega)
  rw [List.length_take, Nat.min_eq_left (by omega), hp] at h1
  rw [or_sh _ _ _ (by omega) h1 (Nat.lt_of_le_of_lt (Nat.mul_le_mul (Nat.le_of_lt_succ hb) hp2) (by decide))]
  congr 1
  rw [List.take_succ_eq_append_getElem hk, un_append, List.length_take, Nat.min_eq_left (by omega), hp]
  simp [un]
theorem un_take_lt (x : List UInt8) (k : Nat) : un (x.take k) < 256 ^ x.length := by
  refine Nat.lt_of_lt_of_le (un_lt _) (Nat.pow_le_pow_right (by omega) ?_)
  rw [List.length_take]; omega
/-- What is wrong with byte b at place i of a var. -/
def vf (i b : Nat) : Int := if i = 9 ∧ 1 < b then 3 else if 0 < i ∧ b = 0 then 4 else 0
/-- A var of l is read up to byte i: n so far, li left. -/
def VdAt (l : List UInt8) (i n : Nat) (li : List UInt8) : Prop :=
  i ≤ 9 ∧ n < 2 ^ (7 * i) ∧ vd 0 l = (if (vd i li).err = 0 then ⟨0, n + 2 ^ (7 * i) * (vd i li).val, (vd i li).rest⟩ else ⟨(vd i li).err, 0, []⟩)
theorem vdAt_start (l : List UInt8) : VdAt l 0 0 l := by
  refine ⟨by omega, by simp, ?_⟩
  split
  · rename_i h; cases hv : vd 0 l; simp_all
  · rename_i h
    obtain ⟨h1, h2⟩ := vd_err h
    cases hv : vd 0 l; simp_all
theorem vdAt_nil {l : List UInt8} {i n : Nat} (h : VdAt l i n []) : vd 0 l = ⟨10, 0, []⟩ := by
  rw [h.2.2]; simp [vd]
theorem vdAt_fault {l r : List UInt8} {i n : Nat} {b : UInt8} (h : VdAt l i n (b :: r)) (hc : vf i b.toNat ≠ 0) : vd 0 l = ⟨vf i b.toNat, 0, []⟩ := by
  rw [h.2.2]
  unfold vf at hc ⊢
  unfold vd
  (repeat' split) <;> simp_all
theorem vdAt_last {l r : List UInt8} {i n : Nat} {b : UInt8} (h : VdAt l i n (b :: r)) (hc : vf i b.toNat = 0) (hb : b.toNat < 128) : vd 0 l = ⟨0, n + 2 ^ (7 * i) * b.toNat, r⟩ := by
  rw [h.2.2]
  unfold vf at hc
  unfold vd
  split at hc
  · omega
  · rename_i h1
    split at hc
    · omega
    · rename_i h2
      rw [if_neg h1, if_neg h2, if_pos hb]
      simp
theorem vdAt_next {l r : List UInt8} {i n : Nat} {b : UInt8} (h : VdAt l i n (b :: r)) (hc : vf i b.toNat = 0) (hb : 128 ≤ b.toNat) : VdAt l (i + 1) (n + 2 ^ (7 * i) * (b.toNat % 128)) r := by
  obtain ⟨hi, hn, he⟩ := h
  have hp : 2 ^ (7 * (i + 1)) = 2 ^ (7 * i) * 128 := by rw [show 7 * (i + 1) = 7 * i + 7 from by omega, Nat.pow_add]
  unfold vf at hc
  split at hc
  · omega
  · rename_i h1
    split at hc
    · omega
    · rename_i h2
      refine ⟨by omega, ?_, ?_⟩
      · rw [hp]
        have h7 : b.toNat % 128 ≤ 127 := by omega
        have := Nat.mul_le_mul_left (2 ^ (7 * i)) h7
        omega
      · have hv : vd i (b :: r) = if (vd (i + 1) r).err = 0 then ⟨0, b.toNat % 128 + 128 * (vd (i + 1) r).val, (vd (i + 1) r).rest⟩ else ⟨(vd (i + 1) r).err, 0, []⟩ := by
          rw [vd, if_neg h1, if_neg h2, if_neg (by omega)]
        rw [he, hv]
        generalize vd (i + 1) r = T
        by_cases h4 : T.err = 0
        · rw [if_pos h4, if_pos rfl, if_pos h4, hp]
          congr 1
          show n + 2 ^ (7 * i) * (b.toNat % 128 + 128 * T.val) = n + 2 ^ (7 * i) * (b.toNat % 128) + 2 ^ (7 * i) * 128 * T.val
          rw [Nat.mul_add, Nat.mul_assoc]
          omega
        · rw [if_neg h4, if_neg h4, if_neg h4]
theorem var_step (i n b : Nat) (hi : i ≤ 9) (hn : n < 2 ^ (7 * i)) (hb : b < 256) (hc : vf i b = 0) (h128 : i = 9 → b < 128) :
    bits .or .u64 (n : Int) (IntKind.u64.wrap (IntKind.u64.wrap (bits .andNot .u8 (b : Int) 128) * 2 ^ (7 * i))) = ((n + 2 ^ (7 * i) * (b % 128) : Nat) : Int) := by
  have e1 : bits .andNot .u8 (b : Int) 128 = ((b % 128 : Nat) : Int) := by
    have := u8_andNot_nat b 128 hb (by decide)
    rw [nat_mask7] at this
    exact this
  rw [e1]
  refine or_sh n (b % 128) (7 * i) (by omega) hn ?_
  by_cases h9 : i = 9
  · subst h9
    have : b ≤ 1 := by
      unfold vf at hc
      split at hc
      · omega
      · omega
    have h2 : b % 128 ≤ 1 := by omega
    exact Nat.lt_of_le_of_lt (Nat.mul_le_mul_right _ h2) (by decide)
  · have h7 : b % 128 ≤ 127 := by omega
    have hp2 : 2 ^ (7 * i) ≤ 2 ^ 56 := Nat.pow_le_pow_right (by omega) (by omega)
    exact Nat.lt_of_le_of_lt (Nat.mul_le_mul h7 hp2) (by decide)
theorem var_lt {n b i : Nat} (hi : i ≤ 9) (hn : n < 2 ^ (7 * i)) (hb : b < 256) (hc : vf i b = 0) : n + 2 ^ (7 * i) * (b % 128) < 18446744073709551616 := by
  by_cases h9 : i = 9
  · subst h9
    have : b ≤ 1 := by
      unfold vf at hc
      split at hc
      · omega
      · omega
    have h2 : b % 128 ≤ 1 := by omega
    have := Nat.mul_le_mul_left (2 ^ (7 * 9)) h2
    have h3 : 2 ^ (7 * 9) = 9223372036854775808 := by decide
    omega
  · have h7 : b % 128 ≤ 127 := by omega
    have hp2 : 2 ^ (7 * i) ≤ 2 ^ 56 := Nat.pow_le_pow_right (by omega) (by omega)
    have := Nat.mul_le_mul hp2 h7
    have h3 : 2 ^ 56 * 127 + 2 ^ 56 < 18446744073709551616 := by decide
    omega
end Go.Proofs.YtgmbdadkahcpcaaDoor
/- The functions of package codec that read, as the walk of the program's text gives them: one contract each. Conditions: the reader lies at a block of its own, and what is left is of 2^40 bytes at most. -/
namespace Go.Proofs.YtgmbdadkahcpcaaDoor
open Go.RowKit
set_option linter.unusedVariables false

end Go.Proofs.YtgmbdadkahcpcaaDoor
/- The functions of package codec that read numbers, vars and texts: one contract each. -/
namespace Go.Proofs.YtgmbdadkahcpcaaDoor
open Go.RowKit
set_option linter.unusedVariables false

theorem rd_bytes (w1 W : World) (x : List UInt8) (e : TypeId) (hW : Lib.bytesWorld w1 e (str x) = W) : ∀ k (hk : k < x.length), W.cell? ⟨w1.heap.size, k, none⟩ = some (.int .u8 (x[k]'hk).toNat) := fun k hk => by
  rw [← hW, Lib.bytesWorld_cell _ _ _ _ (by rw [str_size]; exact hk), str_data]
  simp [List.getD, List.getElem?_eq_getElem hk]
theorem grown_any {w w' : World} {r : Option Nat} (h : w.grownBy w' none) : w.grownBy w' r := ⟨h.os, h.tape, h.output, h.size, fun k hk _ => h.block k hk (by simp)⟩
theorem tk_yes {n : Nat} {l : List UInt8} (h : n ≤ l.length) : tk n l = ⟨0, l.take n, l.drop n⟩ := by unfold tk; rw [if_pos h]
theorem tk_no {n : Nat} {l : List UInt8} (h : l.length < n) : tk n l = ⟨10, [], []⟩ := by unfold tk; rw [if_neg (by omega)]
theorem tk_zero (l : List UInt8) : tk 0 l = ⟨0, [], l⟩ := by simp [tk]
theorem num_tk (n : Nat) (l : List UInt8) : num n l = ⟨(tk n l).err, un (tk n l).val, (tk n l).rest⟩ := by
  unfold num tk; split <;> simp [un]
theorem tk_val_len (n : Nat) (l : List UInt8) : (tk n l).val.length ≤ n := by
  unfold tk; split
  · simp; omega
  · simp

end Go.Proofs.YtgmbdadkahcpcaaDoor
/- The functions of package codec that read, at last: a number of each width, a var, a text; the error and the rest. -/
namespace Go.Proofs.YtgmbdadkahcpcaaDoor
open Go.RowKit
set_option linter.unusedVariables false

theorem bits_00 : bits .or .u64 0 (IntKind.u64.wrap (IntKind.u64.wrap (bits .andNot .u8 0 128) * 2 ^ 0)) = 0 := by decide +kernel
theorem fin_ten (e : Int) : fin (fin e 10) 4 = fin e 10 := by rw [fin_fin]; simp [show fin 10 4 = 10 from rfl]
theorem vf_00 : vf 0 0 = 0 := by simp [vf]
end Go.Proofs.YtgmbdadkahcpcaaDoor
/- The functions of package codec that read: texts, the error, the rest, a new reader; readers that are none. -/
namespace Go.Proofs.YtgmbdadkahcpcaaDoor
open Go.RowKit
set_option linter.unusedVariables false

end Go.Proofs.YtgmbdadkahcpcaaDoor
/- The functions of package codec that write, as the walk of the program's text gives them: one contract each. Conditions: the writer lies at a block of its own, its row behind it; it holds 2^40 bytes at most. -/
namespace Go.Proofs.YtgmbdadkahcpcaaDoor
open Go.RowKit
set_option linter.unusedVariables false

theorem info_u8 : (Tryd.prog.info? 5).map (fun i => (i.zero, i.size, i.bytes)) = some (some (.int .u8 0), 1, 1) := by kernel_rfl
theorem le_snoc : ∀ (k n : Nat), le (k + 1) n = le k n ++ [UInt8.ofNat (n / 256 ^ k % 256)]
  | 0, n => by simp [le]
  | k + 1, n => by
    rw [le, le_snoc k (n / 256)]
    simp [le, Nat.pow_succ, Nat.div_div_eq_div_mul, Nat.mul_comm]
theorem byte_of (n i : Nat) : IntKind.u8.wrap ((n : Int) / 2 ^ (8 * i)) = ((UInt8.ofNat (n / 256 ^ i % 256)).toNat : Int) := by
  have hp : 256 ^ i = 2 ^ (8 * i) := by rw [show (256 : Nat) = 2 ^ 8 from rfl, ← Nat.pow_mul]
  rw [hp]
  generalize 8 * i = j
  have h1 : (UInt8.ofNat (n / 2 ^ j % 256)).toNat = n / 2 ^ j % 256 := by rw [UInt8.toNat_ofNat']; exact Nat.mod_mod _ _
  have h2 : ((n : Int) / 2 ^ j) = ((n / 2 ^ j : Nat) : Int) := by rw [Int.natCast_ediv, Int.natCast_pow]; rfl
  rw [h1, IntKind.wrap_u8', h2]
  omega
theorem byte_of' (n i : Nat) (hn : n < 18446744073709551616) : IntKind.u8.wrap (IntKind.u64.wrap (n : Int) / 2 ^ (8 * i)) = ((UInt8.ofNat (n / 256 ^ i % 256)).toNat : Int) := by
  rw [u64_id _ (by omega) (by omega), byte_of]
end Go.Proofs.YtgmbdadkahcpcaaDoor
/- The functions of package codec that write, at last: a number with a sign, a var, a text; the bytes; writers that are none. -/
namespace Go.Proofs.YtgmbdadkahcpcaaDoor
open Go.RowKit
set_option linter.unusedVariables false

theorem or128 : ∀ x : Fin 256, x.val ||| 128 = x.val % 128 + 128 := by decide +kernel
theorem or_top (m : Nat) : ∃ c : Nat, bits .or .u8 ((m : Int) % 256) 128 = (c : Int) ∧ c < 256 ∧ c = m % 128 + 128 := by
  refine ⟨m % 256 ||| 128, ?_, ?_, ?_⟩
  · rw [show ((m : Int) % 256) = ((m % 256 : Nat) : Int) from rfl]
    exact u8_or_nat (m % 256) 128 (by omega) (by omega)
  · exact Nat.or_lt_two_pow (n := 8) (by omega) (by omega)
  · have := or128 ⟨m % 256, by omega⟩
    simp only at this
    omega
theorem le_one {c : Nat} (h : c < 256) : le 1 c = [UInt8.ofNat c] := by rw [le, le, Nat.mod_eq_of_lt h]
theorem row_shape {w : World} {base : Nat} {e : TypeId} {size n : Nat} {v : Value} {xs : List Value} (h : w.ownsRow base e size v n xs) : ∃ ao cap, v = .slice ao n cap := by
  rcases h.2 with ⟨rfl, rfl⟩ | ⟨g, cap, cur, rfl, _⟩
  · exact ⟨_, _, rfl⟩
  · exact ⟨_, _, rfl⟩
/-- A var of n is written up to a number m. -/
def VrAt (n : Nat) (done : List UInt8) (m : Nat) : Prop := ∃ f, f ≤ 9 ∧ m < 2 ^ (7 * f + 1) ∧ vr n = done ++ vrF f m ∧ done.length = 9 - f
theorem vrAt_start {n : Nat} (hn : n < 18446744073709551616) : VrAt n [] n := ⟨9, by omega, by simpa using hn, rfl, rfl⟩
theorem vrAt_next {n m c : Nat} {done : List UInt8} (h : VrAt n done m) (hm : 128 ≤ m) (hc : c = m % 128 + 128) : VrAt n (done ++ le 1 c) (m / 128) := by
  obtain ⟨f, hf, hlt, he, hd⟩ := h
  cases f with
  | zero => simp at hlt; omega
  | succ f =>
    refine ⟨f, by omega, ?_, ?_, ?_⟩
    · rw [show 7 * (f + 1) + 1 = (7 * f + 1) + 7 from by omega, Nat.pow_add] at hlt
      exact Nat.div_lt_of_lt_mul (by rw [Nat.mul_comm]; exact hlt)
    · rw [he, vrF, if_neg (by omega), le_one (by omega), ← hc]
      simp
    · rw [List.length_append, le_length, hd]; omega
theorem vrAt_last {n m c : Nat} {done : List UInt8} (h : VrAt n done m) (hm : m < 128) (hc : c = m) : vr n = done ++ le 1 c := by
  obtain ⟨f, hf, hlt, he, hd⟩ := h
  rw [he]
  subst hc
  rw [le_one (by omega)]
  cases f with
  | zero => simp [vrF]
  | succ f => simp [vrF, hm]
theorem vrAt_len {n m : Nat} {done : List UInt8} (h : VrAt n done m) : done.length ≤ 9 := by
  obtain ⟨f, hf, _, _, hd⟩ := h; omega
end Go.Proofs.YtgmbdadkahcpcaaDoor
/- The document's answer for layer 2: numbers, vars and texts as bytes: one contract each. -/
namespace Go.Proofs.YtgmbdadkahcpcaaDoor
open Go.RowKit
set_option linter.unusedVariables false

theorem grown_of_below {w w' : World} {r : Option Nat} (h : Below w.heap.size w w') : w.grownBy w' r := ⟨h.os, h.tape, h.output, h.size, fun k hk _ => h.block k hk⟩
theorem below_of_grown {w w' : World} (h : w.grownBy w' none) : Below w.heap.size w w' := ⟨h.os, h.tape, h.output, h.size, fun k hk => h.block k hk (by simp)⟩
/-- A slice of bytes that the call has made. -/
def Row (w : World) (B : Nat) (v : Value) (bs : List UInt8) (wr : World) : Prop :=
  ∃ ao cap, v = .slice ao bs.length cap ∧ wr.ownsRow B 5 1 v bs.length (bvs bs) ∧ Below B w wr ∧ B ≤ wr.heap.size
theorem row_start (w : World) : Row w w.heap.size (.slice none 0 0) [] w := ⟨none, 0, rfl, World.ownsRow_nil _ _ _ _, Below.refl _ _, Nat.le_refl _⟩
theorem row_push {w wr W w1 : World} {B g' cap cap' : Nat} {ao : Option Addr} {bb : List UInt8} {x : Int} {b : UInt8} (hb : Below B w wr) (hB : B ≤ W.heap.size) (hW : Below B wr W)
    (hown : wr.ownsRow B 5 1 (.slice ao bb.length cap) bb.length (bvs bb)) (hgr : W.grownBy w1 (Value.slice ao bb.length cap).ownBlock)
    (hown1 : w1.ownsRow B 5 1 (.slice (some ⟨g', 0, none⟩) (bb.length + 1) cap') (bb.length + 1) (bvs bb ++ [.int .u8 x])) (hx : x = (b.toNat : Int)) :
    Row w B (.slice (some ⟨g', 0, none⟩) (bb.length + 1) cap') (bb ++ [b]) w1 := by
  subst hx
  refine ⟨some ⟨g', 0, none⟩, cap', by simp, ?_, (hb.trans hW).grown hgr hB (fun k e => (hown.lt k e).1), Nat.le_trans hB hgr.size⟩
  simpa [bvs_append, bvs, bv] using hown1
theorem byte_mod (m : Nat) (h : m < 256) : (m : Int) = ((UInt8.ofNat m).toNat : Int) := by
  rw [UInt8.toNat_ofNat']; omega
theorem udiv_id (m d : Nat) (hm : m < 18446744073709551616) : IntKind.u64.wrap ((m : Int) / (d : Int)) = ((m / d : Nat) : Int) := by
  have h : m / d ≤ m := Nat.div_le_self _ _
  rw [show ((m : Int) / (d : Int)) = ((m / d : Nat) : Int) from rfl]
  generalize m / d = q at *
  exact u64_id _ (by omega) (by omega)
theorem udiv_eq {m d r : Nat} (hm : m < 18446744073709551616) (h : m / d = r) : Value.int .u64 (IntKind.u64.wrap ((m : Int) / (d : Int))) = .int .u64 (r : Int) := by rw [udiv_id m d hm, h]
theorem div_pow_lt {n i : Nat} (hn : n < 18446744073709551616) : n / 256 ^ i < 18446744073709551616 := Nat.lt_of_le_of_lt (Nat.div_le_self _ _) hn
theorem vrAt_lt {n m : Nat} {done : List UInt8} (h : VrAt n done m) : m < 18446744073709551616 := by
  obtain ⟨f, hf, hlt, _⟩ := h
  have : 2 ^ (7 * f + 1) ≤ 2 ^ 64 := Nat.pow_le_pow_right (by omega) (by omega)
  omega
def NumPut (w : World) (n k : Nat) (v s j : Value) (wr : World) : Prop :=
  ∃ i : Nat, i ≤ k ∧ v = .int .u64 ((n / 256 ^ i : Nat) : Int) ∧ j = .int .i64 i ∧ Row w w.heap.size s (le i n) wr

def VarRow (w : World) (n : Nat) (v s : Value) (wr : World) : Prop :=
  ∃ (m : Nat) (done : List UInt8), v = .int .u64 m ∧ VrAt n done m ∧ Row w w.heap.size s done wr
end Go.Proofs.YtgmbdadkahcpcaaDoor
/- The document's reader for layer 2: numbers: one contract each. -/
namespace Go.Proofs.YtgmbdadkahcpcaaDoor
open Go.RowKit
set_option linter.unusedVariables false

section
variable {w : World} {g : Nat} {S : List UInt8} {p : Nat} {e : Int}
end
theorem grown_drewN (w : World) (n : Nat) (r : Option Nat) : w.grownBy (w.drewN n) r := ⟨rfl, rfl, rfl, Nat.le_refl _, fun _ _ _ => rfl⟩

theorem un_drop (x : List UInt8) (j : Nat) (hj : j < x.length) : un (x.drop j) = (x[j]'hj).toNat + 256 * un (x.drop (j + 1)) := by
  rw [List.drop_eq_getElem_cons hj, un]
theorem un_drop_lt (x : List UInt8) (j : Nat) (h : x.length - j ≤ 7) : un (x.drop j) < 72057594037927936 := by
  refine Nat.lt_of_lt_of_le (un_lt _) ?_
  rw [List.length_drop]
  exact Nat.pow_le_pow_right (show 0 < 256 from by omega) h
theorem run_idx (S : List UInt8) (q : Nat) (hq : q < S.length) (w : World) : (Instr.index 9 (.string (str S)) (.int .i64 (q : Int))).run Tryd.prog w = .ok (.int .u8 ((S[q]'hq).toNat : Int)) w := by
  rw [run_index_string w _ _ _ _ Tryd.underlying9, dif_pos (by rw [str_size]; omega)]
  congr 1
/-- So many bytes read, from the last one on. -/
def NumBack (x : List UInt8) (n i : Value) : Prop := ∃ j : Nat, j ≤ x.length ∧ i = .int .i64 ((j : Int) - 1) ∧ n = .int .u64 (un (x.drop j))

end Go.Proofs.YtgmbdadkahcpcaaDoor
/- The document's reader for layer 2: vars, texts, the rest: one contract each. -/
namespace Go.Proofs.YtgmbdadkahcpcaaDoor
open Go.RowKit
set_option linter.unusedVariables false

end Go.Proofs.YtgmbdadkahcpcaaDoor
/- The document's reader for layer 2: texts, the rest, the errors: one contract each. -/
namespace Go.Proofs.YtgmbdadkahcpcaaDoor
open Go.RowKit
set_option linter.unusedVariables false

theorem cells_put {w : World} {g i : Nat} {t : TypeId} {cs cs' : Array Value} {v : Value} (h : Cells w g t cs) (n : Nat) (he : cs.setIfInBounds i v = cs') : Cells ((w.drewN n).setCell ⟨g, i, none⟩ v) g t cs' :=
  he ▸ Cells.set (w := w.drewN n) h i v
end Go.Proofs.YtgmbdadkahcpcaaDoor
