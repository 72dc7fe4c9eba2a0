/- Texts of elder layers, one behind the other. -/
import Derived.Test.YtakejacamkdncaaGreatDoorAd
import Derived.Deep.DeepCutAuto
import Derived.Deep.RegionHeld3
import Derived.Deep.OwnRows
import Derived.Laws.CopyRow
import Derived.Laws.CopyOwn
import Derived.Shelf.Spec.SlicesInsert
import Derived.Deep.RegionLaw
import Derived.Laws.StructEq
import Derived.ChangeKeysEq
import Derived.Deep.Slices
import Derived.Deep.Strs
import Derived.Lib.SmallJoins
import Derived.OpenShut
/- The document's Check, and what its Put leans on: contracts; words for drawn regions whose calls make memory. -/
namespace Go.Proofs.YtakejacamkdncaaGreatDoor
open Go.RowKit
set_option linter.unusedVariables false

/-! What is below block B stays as it was in the world wd. -/
def On (B : Nat) (wd w' : World) : Prop := Below B wd w'
section
variable {B : Nat} {w wd w1 w2 w' : World} {g : Nat} {t : TypeId} {cs : Array Value}
theorem On.refl (B : Nat) (w : World) : On B w w := Below.refl _ _
theorem On.drew (B : Nat) (w : World) : On B w w.drew := (Below.refl _ w).drew
theorem on_step (h : On wd.heap.size wd w1) (hb : w1.grownBy w2 none) : On wd.heap.size wd w2 := Below.trans h ((below_of_grown hb).mono h.size)
theorem on_alloc {o : Obj} (h : On wd.heap.size wd w1) : On wd.heap.size wd (w1.alloc o) := on_step h (grown_alloc _ _)
theorem on_drewB (h : On B w w') : On B w w'.drew := Below.drew h
theorem on_size (h : On B w w') : w.heap.size ≤ w'.heap.size := Below.size h
theorem on_cell (h : Cells wd g t cs) (hg : g < B) (i : Nat) {v : Value} (hv : cs[i]? = some v) : ∀ w', On B wd w' → w'.cell? ⟨g, i, none⟩ = some v := fun _ o => by rw [(h.below o hg).cell, hv]
theorem on_grown (o : On wd.heap.size wd w') : wd.grownBy w' none := grown_of_below o
theorem keep_row (h : w1.grownBy w2 none) : ∀ g, g < w1.heap.size → rowOf w2 g = rowOf w1 g := fun g hg => by
  unfold rowOf; rw [h.block g hg (by simp)]
theorem keep_lt (h : w1.grownBy w2 none) : ∀ n, n < w1.heap.size → n < w2.heap.size := fun n hn => Nat.lt_of_lt_of_le hn h.size
theorem drew_size (w : World) : w.drew.heap.size = w.heap.size := rfl
theorem alloc_size (w : World) (o : Obj) : (w.alloc o).heap.size = w.heap.size + 1 := by simp
end
/-! A row of bytes turned into a string. -/
def byteV : Value → Nat
  | .int _ z => z.toNat
  | _ => 0
def strOf (cs : Array Value) : ByteArray := str (cs.toList.map fun v => UInt8.ofNat (byteV v))
def allU8 : List Value → Bool
  | [] => true
  | .int .u8 z :: r => decide (0 ≤ z ∧ z < 256) && allU8 r
  | _ => false
theorem allU8_map : ∀ (l : List Value), allU8 l = true → l = bvs (l.map fun v => UInt8.ofNat (byteV v))
  | [], _ => rfl
  | .int .u8 z :: r, h => by
    simp only [allU8, Bool.and_eq_true, decide_eq_true_eq] at h
    have e := allU8_map r h.2
    show Value.int .u8 z :: r = bv (UInt8.ofNat z.toNat) :: bvs (r.map fun v => UInt8.ofNat (byteV v))
    rw [← e]
    have e2 : bv (UInt8.ofNat z.toNat) = .int .u8 z := by
      unfold bv
      rw [show ((UInt8.ofNat z.toNat).toNat : Int) = z by simp; omega]
    rw [e2]
set_option maxRecDepth 100000 in
theorem run_conv (w : World) (g n : Nat) (hn : (rowOf w g).size = n) (h0 : 0 < n) (ha : allU8 (rowOf w g).toList = true) :
    (convert 113 9 (.slice (some ⟨g, 0, none⟩) n n)).run Tryz.prog w = .ok (.string (strOf (rowOf w g))) w := by
  obtain ⟨cs, t, fr, hg⟩ := rowOf_shape hn h0
  have e : rowOf w g = cs := by unfold rowOf; rw [hg]
  rw [e] at hn ha ⊢
  have hm := allU8_map _ ha
  unfold strOf
  generalize hb : cs.toList.map (fun v => UInt8.ofNat (byteV v)) = bs at *
  have hl : bs.length = n := by rw [← hb, List.length_map, Array.length_toList, hn]
  rw [← hl]
  refine run_convert_bytes_back w _ _ 5 _ _ bs Tryz.underlying113 Tryz.underlying5 Tryz.underlying9 (fun j hj => ?_)
  have hadd : (⟨g, 0, none⟩ : Addr).add j = ⟨g, j, none⟩ := by unfold Addr.add; split <;> simp_all
  have h2 : cs.toList[j]? = (bvs bs)[j]? := congrArg (fun l : List Value => l[j]?) hm
  have h3 : (bvs bs)[j]? = some (bv (bs[j]'hj)) := by unfold bvs; rw [List.getElem?_map, List.getElem?_eq_getElem hj]; rfl
  rw [hadd, cell_of_row w g j cs t fr hg, ← Array.getElem?_toList, h2, h3]
  rfl
theorem strOf2 (a b : Nat) : strOf #[.int .u8 (a : Int), .int .u8 (b : Int)] = str [UInt8.ofNat a, UInt8.ofNat b] := by simp [strOf, byteV]
theorem strOf3 (a b c : Nat) : strOf #[.int .u8 (a : Int), .int .u8 (b : Int), .int .u8 (c : Int)] = str [UInt8.ofNat a, UInt8.ofNat b, UInt8.ofNat c] := by simp [strOf, byteV]
theorem allU8_cons (a : Nat) (r : List Value) : allU8 (.int .u8 (a : Int) :: r) = (decide (a < 256) && allU8 r) := by
  have e : decide (0 ≤ (a : Int) ∧ (a : Int) < 256) = decide (a < 256) := decide_eq_decide.2 (by omega)
  simp only [allU8, e]
theorem allU8_nil : allU8 [] = true := rfl

end Go.Proofs.YtakejacamkdncaaGreatDoor
/- Numbers as a player, as a shot; how package state reads players and shots: one contract each. -/
namespace Go.Proofs.YtakejacamkdncaaGreatDoor
open Go.RowKit
set_option linter.unusedVariables false

theorem info_i32 : (Tryz.prog.info? 21).map (fun i => (i.zero, i.size, i.bytes)) = some (some (.int .i32 0), 1, 4) := by kernel_rfl
theorem num_lt (k : Nat) (l : List UInt8) : (num k l).val < 256 ^ k := by
  unfold num
  split
  · have := un_lt (l.take k)
    rwa [List.length_take, Nat.min_eq_left (by assumption)] at this
  · exact Nat.two_pow_pos 0 |> fun _ => Nat.pow_pos (by decide)
theorem many_lt : ∀ (m i : Nat) (l : List UInt8), okM okN m i (many (fun i => num (wd i)) m i l).val
  | 0, _, _ => rfl
  | m + 1, i, l => ⟨_, _, rfl, num_lt _ _, many_lt m (i + 1) _⟩
/-- The numbers as they stand in the row of 32 bits. -/
def nvI (i n : Nat) : Int := if i < 4 then wrap32 n else (n : Int)
def nvs : Nat → List Nat → List Int
  | _, [] => []
  | i, a :: r => nvI i a :: nvs (i + 1) r
theorem nvs_snoc : ∀ (l : List Nat) (i a : Nat), nvs i (l ++ [a]) = nvs i l ++ [nvI (i + l.length) a]
  | [], i, a => by simp [nvs]
  | x :: l, i, a => by
    simp only [List.cons_append, nvs, nvs_snoc l (i + 1) a, List.length_cons]
    rw [show i + 1 + l.length = i + (l.length + 1) from by omega]
theorem nvs_len : ∀ (l : List Nat) (i : Nat), (nvs i l).length = l.length
  | [], _ => rfl
  | _ :: l, i => by simp [nvs, nvs_len l]
def rowN (m : Nat) (l : List Nat) : Array Value := i32v (nvs 0 l ++ List.replicate (m - l.length) 0)
theorem rowN_nil (m : Nat) : rowN m [] = madeCells #[.int .i32 0] m := by
  apply Array.ext'
  rw [toList_madeCells_one]
  simp [rowN, nvs, i32v]
theorem rowN_set (m : Nat) (l : List Nat) (a : Nat) (h : l.length < m) : (rowN m l).setIfInBounds l.length (.int .i32 (nvI l.length a)) = rowN m (l ++ [a]) := by
  apply Array.ext'
  have e : m - l.length = (m - (l.length + 1)) + 1 := by omega
  simp only [rowN, i32v, nvs_snoc, Nat.zero_add, List.length_append, List.length_cons, List.length_nil]
  rw [e, List.replicate_succ]
  simp [nvs_len]
theorem many_val_len {α : Type} (P : Nat → List UInt8 → Got α) (m i : Nat) (l : List UInt8) : (many P m i l).val.length = m := many_len P m i l
theorem rowN_at (m : Nat) (l : List Nat) (j : Nat) (hl : l.length = j) (h : j < m) : (rowN m l)[j]? = some (.int .i32 0) := by
  rw [rowN, i32v, ← Array.getElem?_toList]
  simp only [List.getElem?_map]
  rw [List.getElem?_append_right (by rw [nvs_len]; omega), nvs_len, hl, Nat.sub_self]
  rw [List.getElem?_replicate, if_pos (by omega)]
  rfl
theorem grown_setNew {w w1 : World} {r : Option Nat} {p : Addr} {u : Value} (h : w.grownBy w1 r) (hp : w.heap.size ≤ p.block) : w.grownBy (w1.setCell p u) r :=
  ⟨h.os, h.tape, h.output, by have := h.size; simp [World.setCell]; exact this, fun i hi hn => (Below.heap_setCell _ _ _ i (by omega)).trans (h.block i hi hn)⟩
theorem grown_row {w w1 w2 : World} {r : Nat} {ob : Option Nat} (h : w.grownBy w1 (some r)) (k : w1.grownBy w2 ob) (hb : ∀ q, ob = some q → w.heap.size ≤ q) : w.grownBy w2 (some r) :=
  ⟨k.os.trans h.os, k.tape.trans h.tape, k.output.trans h.output, Nat.le_trans h.size k.size, fun i hi hn => (k.block i (Nat.lt_of_lt_of_le hi h.size) (fun e => by have := hb i e.symm; omega)).trans (h.block i hi hn)⟩
theorem many_val {α : Type} (P : Nat → List UInt8 → Got α) (m i : Nat) (l : List UInt8) : (many P (m + 1) i l).val = (many P m i l).val ++ [(P (i + m) (many P m i l).rest).val] := by rw [many_snoc]
theorem many_rest {α : Type} (P : Nat → List UInt8 → Got α) (m i : Nat) (l : List UInt8) : (many P (m + 1) i l).rest = (P (i + m) (many P m i l).rest).rest := by rw [many_snoc]
theorem many_err {α : Type} (P : Nat → List UInt8 → Got α) (m i : Nat) (l : List UInt8) : (many P (m + 1) i l).err = fin (many P m i l).err (P (i + m) (many P m i l).rest).err := by rw [many_snoc]
theorem kept_row {w w' : World} {base : Nat} {e : TypeId} {size n : Nat} {v : Value} {xs : List Value} {r : Nat} (h : w.ownsRow base e size v n xs) (hb : w.grownBy w' (some r)) (hr : r < base) : w'.ownsRow base e size v n xs :=
  h.kept hb (by
    rcases h.2 with ⟨rfl, _⟩ | ⟨g', cap, cur, rfl, hg, _⟩
    · exact .inl rfl
    · exact .inr (by simp [Value.ownBlock]; omega))

def Pcs (p : Pl) : List Value := [.int .i32 p.x, .int .i32 p.y, .int .i32 p.vx, .int .i32 p.vy, .int .u8 (p.h : Int), .int .u8 (p.c : Int), .int .u8 (p.f : Int)]
def Pall (l : List Pl) : List Value := l.flatMap Pcs
theorem Pall_snoc (l : List Pl) (p : Pl) : Pall (l ++ [p]) = Pall l ++ Pcs p := by simp [Pall]
theorem P_done {v : List Nat} (h : okM okN 7 0 v) : rowN 7 v = i32v (mkP v).nums ∧ (mkP v).fit := by
  obtain ⟨a0, r0, rfl, h0, a1, r1, rfl, h1, a2, r2, rfl, h2, a3, r3, rfl, h3, a4, r4, rfl, h4, a5, r5, rfl, h5, a6, r6, rfl, h6, rfl⟩ := h
  exact ⟨by simp [rowN, nvs, nvI, mkP, Pl.nums], wrap32_fit _, wrap32_fit _, wrap32_fit _, wrap32_fit _, h4, h5, h6⟩
def Hcs (p : Sh) : List Value := [.int .i32 p.x, .int .i32 p.y, .int .i32 p.vx, .int .i32 p.vy, .int .u8 (p.o : Int), .int .u8 (p.l : Int)]
def Hall (l : List Sh) : List Value := l.flatMap Hcs
theorem Hall_snoc (l : List Sh) (p : Sh) : Hall (l ++ [p]) = Hall l ++ Hcs p := by simp [Hall]
theorem H_done {v : List Nat} (h : okM okN 6 0 v) : rowN 6 v = i32v (mkH v).nums ∧ (mkH v).fit := by
  obtain ⟨a0, r0, rfl, h0, a1, r1, rfl, h1, a2, r2, rfl, h2, a3, r3, rfl, h3, a4, r4, rfl, h4, a5, r5, rfl, h5, rfl⟩ := h
  exact ⟨by simp [rowN, nvs, nvI, mkH, Sh.nums], wrap32_fit _, wrap32_fit _, wrap32_fit _, wrap32_fit _, h4, h5⟩
end Go.Proofs.YtakejacamkdncaaGreatDoor
/- Take: the state that bytes are: its contract. -/
namespace Go.Proofs.YtakejacamkdncaaGreatDoor
open Go.RowKit
set_option linter.unusedVariables false

abbrev zst : Array Value := stc .zero none 0
theorem hall_at : ∀ (l : List Sh) (k : Nat) (hk : k < l.length) (i : Nat) (v : Value), (Hcs (l[k]'hk))[i]? = some v → (Hall l)[k * 6 + i]? = some v
  | a :: l, 0, _, i, v, hv => by
    have hi : i < 6 := by
      rcases Nat.lt_or_ge i 6 with h1 | h1
      · exact h1
      · rw [List.getElem?_eq_none (by simpa [Hcs] using h1)] at hv; cases hv
    simp only [Hall, List.flatMap_cons]
    rw [List.getElem?_append_left (by simp [Hcs]; omega)]
    simpa using hv
  | a :: l, k + 1, hk, i, v, hv => by
    have ih := hall_at l k (by simpa using hk) i v hv
    simp only [Hall, List.flatMap_cons]
    rw [List.getElem?_append_right (by simp [Hcs]; omega)]
    simp only [Hcs, List.length_cons, List.length_nil]
    rw [show (k + 1) * 6 + i - (0 + 1 + 1 + 1 + 1 + 1 + 1) = k * 6 + i from by omega]
    exact ih
section
variable {w : World} {g : Nat} {s : St} {ao : Option Addr} {cap : Nat}
end
theorem tst_eq (l : List UInt8) (A B : Got Nat) (P : Got (List (List Nat))) (V : Got Nat) (H : Got (List (List Nat))) (C D : Got Nat) (hA : num 8 l = A) (hB : num 8 A.rest = B) (hP : many (fun _ => pR) 2 0 B.rest = P) (hV : vd 0 P.rest = V)
    (hH : many (fun _ => hR) V.val 0 V.rest = H) (hC : num 2 H.rest = C) (hD : num 2 C.rest = D) :
    tst l = if 8 < V.val then (4, .zero) else if fin (fin (fin (fin (fin (fin (fin 0 A.err) B.err) P.err) V.err) H.err) C.err) D.err ≠ 0 then (fin (fin (fin (fin (fin (fin (fin 0 A.err) B.err) P.err) V.err) H.err) C.err) D.err, .zero)
      else if D.rest ≠ [] ∨ St.good ⟨A.val, B.val, mkP (P.val.getD 0 []), mkP (P.val.getD 1 []), H.val.map mkH, C.val, D.val⟩ = false then (4, .zero)
      else (0, ⟨A.val, B.val, mkP (P.val.getD 0 []), mkP (P.val.getD 1 []), H.val.map mkH, C.val, D.val⟩) := by
  have e1 : many (fun _ => num 8) 2 0 l = ⟨fin A.err B.err, [A.val, B.val], B.rest⟩ := by simp [many, hA, hB, fin_zero]
  have e2 : many (fun _ => num 2) 2 0 H.rest = ⟨fin C.err D.err, [C.val, D.val], D.rest⟩ := by simp [many, hC, hD, fin_zero]
  unfold tst rawR
  simp only [seq, e1, hP, hV, hH, e2, mkS, List.getD_cons_zero, List.getD_cons_succ, fin_fin, fin_of]
theorem grown_drw (w : World) : w.grownBy w.drew none := ⟨rfl, rfl, rfl, Nat.le_refl _, fun _ _ _ => rfl⟩
theorem two_maps {v : List (List Nat)} (h : v.length = 2) : v.map mkP = [mkP (v.getD 0 []), mkP (v.getD 1 [])] := by
  match v, h with
  | [a, b], _ => rfl
theorem many_okM {α : Type} {P : Nat → List UInt8 → Got α} {ok : Nat → α → Prop} (h : ∀ i l, ok i (P i l).val) : ∀ (m i : Nat) (l : List UInt8), okM ok m i (many P m i l).val
  | 0, _, _ => rfl
  | m + 1, i, l => ⟨_, _, rfl, h i l, many_okM h m (i + 1) _⟩
theorem grown_setRow (w : World) (g : Nat) (cs : Array Value) : w.grownBy (w.setRow g cs) (some g) := ⟨rfl, rfl, rfl, by simp, fun k hk hn => setRow_other _ _ _ _ (fun e => hn (by rw [e]))⟩
theorem owns_less {w : World} {B B' : Nat} {e : TypeId} {size n : Nat} {v : Value} {xs : List Value} (h : w.ownsRow B e size v n xs) (hB : B' ≤ B) : w.ownsRow B' e size v n xs := by
  refine ⟨h.1, ?_⟩
  rcases h.2 with h | ⟨g, cap, cur, h1, h2, h3⟩
  · exact .inl h
  · exact .inr ⟨g, cap, cur, h1, Nat.le_trans hB h2, h3⟩
theorem two_of {α : Type} {l : List α} (h : l.length = 2) : ∃ a b, l = [a, b] := by
  match l, h with
  | [a, b], _ => exact ⟨a, b, rfl⟩
end Go.Proofs.YtakejacamkdncaaGreatDoor
/- Two players, two shots, two pairs of players, two scores: equal or not, as the program's '==' tells. -/
namespace Go.Proofs.YtakejacamkdncaaGreatDoor
open Go.RowKit
set_option linter.unusedVariables false

theorem pl_dec (a b : Pl) : decide (a = b) = ((a.x == b.x) && ((a.y == b.y) && ((a.vx == b.vx) && ((a.vy == b.vy) && (((a.h : Int) == (b.h : Int)) && (((a.c : Int) == (b.c : Int)) && (((a.f : Int) == (b.f : Int))))))))) := by
  rw [Bool.eq_iff_iff]
  simp [pl_eq]
  intros
  omega
theorem sh_dec (a b : Sh) : decide (a = b) = ((a.x == b.x) && ((a.y == b.y) && ((a.vx == b.vx) && ((a.vy == b.vy) && (((a.o : Int) == (b.o : Int)) && (((a.l : Int) == (b.l : Int)))))))) := by
  rw [Bool.eq_iff_iff]
  simp [sh_eq]
  intros
  omega
end Go.Proofs.YtakejacamkdncaaGreatDoor
/- Same: whether two states are the same: its contract. -/
namespace Go.Proofs.YtakejacamkdncaaGreatDoor
open Go.RowKit
set_option linter.unusedVariables false

theorem ext14 (a0 a1 a2 a3 a4 a5 a6 a7 a8 a9 a10 a11 a12 a13 a14 a15 a16 a17 a18 : Value) : (#[a0, a1, a2, a3, a4, a5, a6, a7, a8, a9, a10, a11, a12, a13, a14, a15, a16, a17, a18] : Array Value).extract 2 16 = #[a2, a3, a4, a5, a6, a7, a8, a9, a10, a11, a12, a13, a14, a15] := rfl
section
end
section
theorem same_and (a b : St) : same a b = (((a.fr : Int) == (b.fr : Int)) && (((a.sd : Int) == (b.sd : Int)) && ((decide (a.p = b.p) && decide (a.q = b.q)) && (decide (a.ss = b.ss) && (((a.s0 : Int) == (b.s0 : Int)) && ((a.s1 : Int) == (b.s1 : Int))))))) := by
  unfold same
  rw [Bool.eq_iff_iff]
  simp [st_eq]
  intros
  constructor
  · rintro ⟨a1, a2, a3, a4, a5, a6, a7⟩; exact ⟨by omega, by omega, ⟨a3, a4⟩, a5, by omega, by omega⟩
  · rintro ⟨a1, a2, ⟨a3, a4⟩, a5, a6, a7⟩; exact ⟨by omega, by omega, a3, a4, a5, by omega, by omega⟩
end
end Go.Proofs.YtakejacamkdncaaGreatDoor
/- Start, and the statements' own first state: contracts. -/
namespace Go.Proofs.YtakejacamkdncaaGreatDoor
open Go.RowKit
set_option linter.unusedVariables false

/-- A block of a state's cells lies there, none of them frozen. -/
def okRow (w : World) (g : Nat) : Prop := ∃ cs t, Cells w g t cs ∧ cs.size = 19
theorem okRow_new (w : World) (g : Nat) (cs : Array Value) (t : TypeId) (h : g = w.heap.size) (hc : cs.size = 19) : okRow (w.alloc (.cells cs t)) g := by
  subst h; exact ⟨cs, t, Cells.made w t cs, hc⟩
theorem okRow_old (w : World) (g : Nat) (o : Obj) (h : okRow w g) : okRow (w.alloc o) g := by
  obtain ⟨cs, t, hc, hs⟩ := h; exact ⟨cs, t, hc.alloc o, hs⟩
theorem cells_far {w : World} {g g' : Nat} {t : TypeId} {cs : Array Value} (h : Cells w g t cs) (hne : g ≠ g') (cs' : Array Value) : Cells (w.setRow g' cs') g t cs := (setRow_other _ _ _ _ hne).trans h
def start (n : Nat) : St := ⟨0, n, ⟨8192, 14336, 0, 0, 100, 0, 0⟩, ⟨53248, 14336, 0, 0, 100, 0, 1⟩, [], 0, 0⟩
/-- The statements' own first state: that of 1, with a shot. -/
def shot1 : Sh := ⟨5, 6, -2048, 2048, 1, 40⟩
def frst : St := { start 1 with ss := [shot1] }
theorem fit_shot1 : shot1.fit := ⟨⟨by decide, by decide⟩, ⟨by decide, by decide⟩, ⟨by decide, by decide⟩, ⟨by decide, by decide⟩, by decide, by decide⟩
end Go.Proofs.YtakejacamkdncaaGreatDoor
/- The statements' own fails and works: contracts. -/
namespace Go.Proofs.YtakejacamkdncaaGreatDoor
open Go.RowKit
set_option linter.unusedVariables false

theorem shs_nil (w : World) (ao : Option Addr) : Shs w ao [] := fun k h => by simp at h
theorem rowOf_setRow (w : World) (g : Nat) (cs : Array Value) (h : okRow w g) : rowOf (w.setRow g cs) g = cs := by
  obtain ⟨old, t, ho, _⟩ := h
  exact rowOf_cells (setRow_heap w g old cs t _ ho)
theorem okRow_setRow (w : World) (g : Nat) (cs : Array Value) (h : okRow w g) (hs : cs.size = 19) : okRow (w.setRow g cs) g := by
  obtain ⟨old, t, ho, _⟩ := h
  exact ⟨cs, t, setRow_heap w g old cs t _ ho, hs⟩
theorem rowOf_own (w : World) (z cs : Array Value) (t : TypeId) : rowOf ((w.alloc (.cells z t)).setRow w.heap.size cs) w.heap.size = cs := rowOf_cells (setRow_heap _ _ z cs t _ (Cells.made w t z))
theorem grown_own (w : World) (o : Obj) (cs : Array Value) : w.grownBy ((w.alloc o).setRow w.heap.size cs) none :=
  grown_of_below (below_setRow ((Below.refl _ w).alloc (Nat.le_refl _) _) (Nat.le_refl _) _)
theorem good_frst : frst.good = true := by decide
theorem fit_frst : frst.fit := ⟨by decide, by decide, ⟨⟨by decide, by decide⟩, ⟨by decide, by decide⟩, ⟨by decide, by decide⟩, ⟨by decide, by decide⟩, by decide, by decide, by decide⟩, ⟨⟨by decide, by decide⟩, ⟨by decide, by decide⟩, ⟨by decide, by decide⟩, ⟨by decide, by decide⟩, by decide, by decide, by decide⟩, fun x hx => by
  obtain rfl : x = shot1 := by simpa [frst] using hx
  exact fit_shot1, by decide, by decide⟩
theorem good_start1 : (start 1).good = true := by decide
theorem fit_start0 : (start 0).fit := ⟨by decide, by decide, ⟨⟨by decide, by decide⟩, ⟨by decide, by decide⟩, ⟨by decide, by decide⟩, ⟨by decide, by decide⟩, by decide, by decide, by decide⟩, ⟨⟨by decide, by decide⟩, ⟨by decide, by decide⟩, ⟨by decide, by decide⟩, ⟨by decide, by decide⟩, by decide, by decide, by decide⟩, fun x hx => by simp [start] at hx, by decide, by decide⟩
theorem fit_start {n : Nat} (hn : n < 18446744073709551616) : (start n).fit := ⟨fit_start0.1, hn, fit_start0.2.2⟩
theorem len_frst : (ste frst).length = 77 := by
  have h1 := pe_len frst.p
  have h2 := pe_len frst.q
  have h3 := hes_len frst.ss
  have h4 : (vr 1).length = 1 := rfl
  have h5 : frst.ss.length = 1 := rfl
  simp only [ste, List.length_append, le_length, h1, h2, h3, h5, h4]
theorem len_start : (ste (start 1)).length = 59 := by
  have h1 := pe_len (start 1).p
  have h2 := pe_len (start 1).q
  have h3 := hes_len (start 1).ss
  have h4 : (vr 0).length = 1 := rfl
  have h5 : (start 1).ss.length = 0 := rfl
  simp only [ste, List.length_append, le_length, h1, h2, h3, h5, h4]
theorem tst_nil : tst [] = (10, .zero) := by
  have := tst_cut (fit_start (n := 1) (by decide)) good_start1 [] (ste (start 1)) rfl (fun e => by have := len_start; rw [e] at this; simp at this)
  exact this
theorem rowOf_on {B : Nat} {wd : World} {g : Nat} {cs : Array Value} (h : rowOf wd g = cs) (hg : g < B) : ∀ w', On B wd w' → rowOf w' g = cs := fun w' o => by
  unfold rowOf at h ⊢; rw [Below.block o g hg]; exact h
end Go.Proofs.YtakejacamkdncaaGreatDoor
/- A state as an argument of a statement: taken apart. -/
namespace Go.Proofs.YtakejacamkdncaaGreatDoor
open Go.ChangeShapes Go.WideShapes Go.RowKit Go.Deep
set_option linter.unusedVariables false

theorem arr19 (cs : Array Value) (h : cs.size = 19) : ∃ c0 c1 c2 c3 c4 c5 c6 c7 c8 c9 c10 c11 c12 c13 c14 c15 c16 c17 c18, cs = #[c0, c1, c2, c3, c4, c5, c6, c7, c8, c9, c10, c11, c12, c13, c14, c15, c16, c17, c18] := by
  obtain ⟨l⟩ := cs
  match l, h with
  | [c0, c1, c2, c3, c4, c5, c6, c7, c8, c9, c10, c11, c12, c13, c14, c15, c16, c17, c18], _ => exact ⟨c0, c1, c2, c3, c4, c5, c6, c7, c8, c9, c10, c11, c12, c13, c14, c15, c16, c17, c18, rfl⟩
theorem addr_flat {w : World} {a : Addr} {v : Value} (h : w.cell? (a.add 0) = some v) : ∃ b o, a = ⟨b, o, none⟩ := by
  obtain ⟨b, off, spot⟩ := a
  have hspot : spot = none := by simpa [Addr.add] using World.cell?_spot h
  subst hspot
  exact ⟨b, off, rfl⟩
section
variable {H : Type} {enc : TypeId × Value → H} {P : Program} {w : World} {base : Nat} {spare : Nat → Bool} {held : Bool}
theorem trod_field {t : TypeId} {fs : Array Field} {fuel : Nat} {cs : List Value} {x : DataW H × List MemPlace} (ht : P.underlying t = some (.struct fs)) (h : DataW.trod enc P w base spare held fuel t cs = some x) {i : Nat} {f : Field} (hi : fs[i]? = some f) :
    ∃ n y, DataW.trod enc P w base spare held n f.type ((cs.drop f.offset).take (P.cellsOf f.type)) = some y := by
  obtain ⟨xs, n, _, _, _, hlen, hf⟩ := DataW.trod_struct ht h
  obtain ⟨hlt, _⟩ := Array.getElem?_eq_some_iff.1 hi
  have := hf i f hi
  rw [List.getElem?_eq_getElem (by omega)] at this
  exact ⟨n, _, this⟩
theorem trod_elem {t e : TypeId} {k : Nat} {fuel : Nat} {cs : List Value} {x : DataW H × List MemPlace} (ht : P.underlying t = some (.array k e)) (h : DataW.trod enc P w base spare held fuel t cs = some x) {i : Nat} (hi : i < k) :
    ∃ n y, DataW.trod enc P w base spare held n e ((cs.drop (i * P.cellsOf e)).take (P.cellsOf e)) = some y := by
  obtain ⟨xs, n, _, _, _, hlen, hf⟩ := DataW.trod_array ht h
  have := hf i hi
  rw [List.getElem?_eq_getElem (by omega)] at this
  exact ⟨n, _, this⟩
end
section
variable {H : Type} {enc : TypeId × Value → H} {w : World} {base : Nat} {spare : Nat → Bool} {held : Bool}
end
end Go.Proofs.YtakejacamkdncaaGreatDoor
/- A player laid into a block: one step of the walk. -/
namespace Go.Proofs.YtakejacamkdncaaGreatDoor
open Go.RowKit
set_option linter.unusedVariables false

theorem alloc_setRow (w : World) (z cs : Array Value) (t : TypeId) : (w.alloc (.cells z t)).setRow w.heap.size cs = w.alloc (.cells cs t) := by
  unfold World.setRow World.alloc
  cases w with
  | mk heap tape drawn os output =>
    congr 1
    apply Array.ext
    · simp
    · intro k h1 h2
      simp only [Array.getElem_modify, Array.getElem_push]
      split
      · rename_i hk; subst hk; simp
      · rename_i hk
        have : k < heap.size := by simp at h2; omega
        simp [this]
end Go.Proofs.YtakejacamkdncaaGreatDoor
