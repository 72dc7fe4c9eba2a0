/- Texts of the walk. -/
import Derived.Test.YtgeaacabpnepmaaGreatDoorDb8
import Derived.BigQuiet
import Derived.Test.YtgeaacabpnepmaaGreatDoorAc8
import Derived.Test.YtgeaacabpnepmaaGreatDoorQz8
import Derived.Deep.AppendLies
/- Names, and files by their names: the program's mayStand, isName, check, find. -/
namespace Go.Proofs.YtgeaacabpnepmaaGreatDoor
open Go.RowKit
set_option linter.unusedVariables false
set_option maxRecDepth 100000

theorem mayStand_c (b : UInt8) (w : World) : Calls Tryz.prog 223 #[.int .u8 b.toNat] w fun E w' => E = .returned (.bool (nmc b)) ∧ w = w' := by
  have hb := UInt8.toNat_lt b
  have hq : Hid (nmc b = ((97 ≤ b.toNat && b.toNat ≤ 122) || (48 ≤ b.toNat && b.toNat ≤ 57) || b.toNat == 46 || b.toNat == 45)) := rfl
  generalize nmc b = r at *
  generalize b.toNat = n at *
  go_enter Tryz.func223, Tryz.ntmps223
  have key : (r = true ∧ ((97 ≤ n ∧ n ≤ 122) ∨ (n < 97 ∧ 48 ≤ n ∧ n ≤ 57) ∨ n = 46 ∨ n = 45)) ∨ (r = false ∧ ((122 < n) ∨ (n < 97 ∧ 57 < n) ∨ (n < 48 ∧ n ≠ 46 ∧ n ≠ 45))) := by
    rw [hq.out]
    simp only [Bool.or_eq_true, Bool.and_eq_true, decide_eq_true_eq, beq_iff_eq, Bool.or_eq_false_iff, Bool.and_eq_false_iff, decide_eq_false_iff_not, beq_eq_false_iff_ne]
    omega
  clear hq
  rcases key with ⟨rfl, ⟨h1, h2⟩ | ⟨h1, h2, h3⟩ | rfl | rfl⟩ | ⟨rfl, h1 | ⟨h1, h2⟩ | ⟨h1, h2, h3⟩⟩
  · go_wp2; go_ret; exact ⟨rfl, rfl⟩
  · go_wp2; go_ret; exact ⟨rfl, rfl⟩
  · go_wp2; go_ret; exact ⟨rfl, rfl⟩
  · go_wp2; go_ret; exact ⟨rfl, rfl⟩
  · go_wp2; go_ret; exact ⟨by first | rfl | (simp; omega), rfl⟩
  · go_wp2; go_ret; exact ⟨by first | rfl | (simp; omega), rfl⟩
  · go_wp2; go_ret; exact ⟨by first | rfl | (simp; omega), rfl⟩
theorem nms_step {n : List UInt8} {k : Nat} (h : k < n.length) : (n.take (k + 1)).all nmc = ((n.take k).all nmc && nmc (n[k]'h)) := by
  rw [List.take_succ_eq_append_getElem h, List.all_append]
  simp
theorem nms_no {n : List UInt8} {k : Nat} (h : k < n.length) (hn : nmc (n[k]'h) = false) : n.all nmc = false := by
  rw [List.all_eq_false]
  exact ⟨_, List.getElem_mem h, by simp [hn]⟩
theorem isName_c (n : List UInt8) (w : World) (hl : n.length ≤ maxLen) : Calls Tryz.prog 191 #[.string (str n)] w fun E w' => E = .returned (.bool (isNm n)) ∧ w = w' := by
  simp only [maxLen] at hl
  have hs := str_size n
  by_cases h1 : n.length < 1
  · have hq : isNm n = false := by unfold isNm; simp; omega
    rw [hq]
    go_enter Tryz.func191, Tryz.ntmps191
    go_wp2
    go_ret
    exact ⟨rfl, rfl⟩
  by_cases h2 : 32 < n.length
  · have hq : isNm n = false := by unfold isNm; simp; omega
    rw [hq]
    go_enter Tryz.func191, Tryz.ntmps191
    go_wp2
    go_ret
    exact ⟨rfl, rfl⟩
  have hq : Hid (isNm n = n.all nmc) := by show _ = _; unfold isNm; simp; omega
  rw [hq.out]
  go_enter Tryz.func191, Tryz.ntmps191
  go_wp2
  go_loop [14] (fun i => ∃ k : Nat, k ≤ n.length ∧ i = .int .i64 k ∧ (n.take k).all nmc = true) (fun i => n.length - (intOf i).toNat)
  case atStart => exact ⟨0, Nat.zero_le _, rfl, by simp⟩
  case round =>
    obtain ⟨k, hk, rfl, hok⟩ := hrel
    have HOK := Lib.hid hok
    clear hok
    by_cases hlt : k < n.length
    · have hg : ∀ h, (str n)[k]'h = n[k]'hlt := fun h => rfl
      have hc := mayStand_c (n[k]'hlt) w
      have HN := Lib.hid (nms_step hlt)
      have HX := Lib.hid (nms_no hlt)
      cases hb : nmc (n[k]'hlt) with
      | true =>
        rw [hb] at hc
        have HB := Lib.hid hb
        clear hb
        go_wp2_with fail
        refine hc.mono ?_
        rintro E w1 ⟨rfl, rfl⟩
        go_wp2
        go_round
        case rel => exact ⟨k + 1, by omega, by go_num, by rw [HN.out, HOK.out, HB.out]; rfl⟩
        case measure => simp [intOf]; omega
      | false =>
        rw [hb] at hc
        have HB := Lib.hid hb
        clear hb
        go_wp2_with fail
        refine hc.mono ?_
        rintro E w1 ⟨rfl, rfl⟩
        go_wp2
        go_ret
        exact ⟨by rw [HX.out HB.out]; rfl, rfl⟩
    · have hx : k = n.length := by omega
      have HX := Lib.hid hx
      clear hx
      go_wp2
      go_ret
      refine ⟨?_, rfl⟩
      have := HOK.out
      rw [HX.out, List.take_length] at this
      rw [this]
      rfl
def Nms (w : World) (b : Nat) (l : List (List UInt8)) : Prop := ∀ j (h : j < l.length), w.cell? ⟨b, j, none⟩ = some (.string (str (l[j]'h))) ∧ (l[j]'h).length ≤ maxLen
def dchk (l : List (List UInt8)) : Nat := if l.all isNm then 0 else 2
theorem eql_map_some (m : Nat) (w : World) : (binOp .eql 80 (.map (some m)) (.map none)).run Tryz.prog w = .ok (.bool false) w := by kernel_rfl
theorem eql_map_none (w : World) : (binOp .eql 80 (.map none) (.map none)).run Tryz.prog w = .ok (.bool true) w := by kernel_rfl
attribute [local go_sem] eql_map_some eql_map_none
theorem check_nil (v s : Value) (w : World) (h : NilD w v) :
    Calls Tryz.prog 139 #[v, s] w fun E w' => E = .returned (.int .i64 1) ∧ w = w' := by
  rcases h with rfl | ⟨g, q, rfl, hc⟩
  · go_enter Tryz.func139, Tryz.ntmps139
    go_wp2
    go_ret
    exact ⟨rfl, rfl⟩
  · have c1 : w.cell? ⟨g, 1, none⟩ = some (.map none) := by rw [hc.cell]; rfl
    go_enter Tryz.func139, Tryz.ntmps139
    go_wp2
    go_ret
    exact ⟨rfl, rfl⟩
theorem dcheck_c {gd m q b : Nat} {fs : List Fil} (c : Nat) (l : List (List UInt8)) (w : World) (h : Dk w gd m q fs) (hl : Nms w b l) (hn : l.length ≤ 1000) :
    Calls Tryz.prog 139 #[.pointer (some ⟨gd, 0, none⟩), .slice (some ⟨b, 0, none⟩) l.length c] w fun E w' => E = .returned (.int .i64 (dchk l)) ∧ w = w' := by
  have c1 : w.cell? ⟨gd, 1, none⟩ = some (.map (some m)) := by rw [h.blk.cell]; rfl
  have HL := Lib.hid hl
  clear h hl
  go_enter Tryz.func139, Tryz.ntmps139
  go_wp2
  go_loop [18] (fun i => ∃ k : Nat, k ≤ l.length ∧ i = .int .i64 k ∧ (l.take k).all isNm = true) (fun i => l.length - (intOf i).toNat)
  case atStart => exact ⟨0, Nat.zero_le _, rfl, by simp⟩
  case round =>
    obtain ⟨k, hk, rfl, hok⟩ := hrel
    have HOK := Lib.hid hok
    clear hok
    by_cases hlt : k < l.length
    · obtain ⟨hcell, hlen⟩ := HL.out k hlt
      have hc := isName_c (l[k]'hlt) w hlen
      cases hb : isNm (l[k]'hlt) with
      | true =>
        rw [hb] at hc
        have HN : Hid ((l.take (k + 1)).all isNm = true) := by show _ = _; rw [List.take_succ_eq_append_getElem hlt, List.all_append, HOK.out]; simp [hb]
        clear hb hlen
        generalize l[k]'hlt = x at *
        go_wp2_with fail
        refine hc.mono ?_
        rintro E w1 ⟨rfl, rfl⟩
        go_wp2
        go_round
        case rel => exact ⟨k + 1, by omega, by go_num, HN.out⟩
        case measure => simp [intOf]; omega
      | false =>
        rw [hb] at hc
        have HN : Hid (dchk l = 2) := by show _ = _; unfold dchk; rw [if_neg]; intro e; rw [List.all_eq_true] at e; have := e _ (List.getElem_mem hlt); rw [hb] at this; cases this
        clear hb hlen
        generalize l[k]'hlt = x at *
        go_wp2_with fail
        refine hc.mono ?_
        rintro E w1 ⟨rfl, rfl⟩
        go_wp2
        go_ret
        exact ⟨by rw [HN.out]; rfl, rfl⟩
    · have hx : k = l.length := by omega
      have HX : Hid (dchk l = 0) := by show _ = _; have := HOK.out; rw [hx, List.take_length] at this; unfold dchk; rw [if_pos this]
      clear hx
      go_wp2
      go_ret
      exact ⟨by rw [HX.out]; rfl, rfl⟩
theorem look_c {gd m q : Nat} {fs : List Fil} {w : World} (h : Dj w gd m q fs) (n : List UInt8) (hn : n.length ≤ maxLen) :
    (Instr.lookup 80 (.map (some m)) (.string (str n)) false).run Tryz.prog w = .ok (.pointer ((fndK Fil.nm n fs).map fun f => ⟨f.g, 0, none⟩)) w := by
  have hz : (zeroValue 180).run Tryz.prog w = .ok (.pointer none) w := by simp [Tryz.zeroValue180]
  obtain ⟨v, ps, hr, hv⟩ := h.map.lookup key_str Tryz.underlying80 hz (zd := .nil) (zp := []) rfl (key_of n hn)
  rw [dat_at] at hv
  rw [hr]
  cases hf : fndK Fil.nm n fs with
  | none => rw [hf] at hv; rw [DRf_nil hv]; rfl
  | some f => rw [hf] at hv; rw [DRf_ptr hv]; rfl
theorem isNm_len {n : List UInt8} (h : isNm n = true) : n.length ≤ 32 := by
  unfold isNm at h
  simp at h
  exact h.1.2
theorem nms_one (w : World) (n : List UInt8) (hn : n.length ≤ maxLen) : Nms (w.alloc (.cells #[.string (str n)] 9)) w.heap.size [n] := fun j hj => by
  have : j = 0 := by simp at hj; exact hj
  subst this
  exact ⟨by rw [(Cells.made w _ _).cell]; rfl, hn⟩
theorem nms_two (w : World) (n n' : List UInt8) (hn : n.length ≤ maxLen) (hn' : n'.length ≤ maxLen) : Nms (w.alloc (.cells #[.string (str n), .string (str n')] 9)) w.heap.size [n, n'] := fun j hj => by
  have : j = 0 ∨ j = 1 := by simp at hj; omega
  rcases this with rfl | rfl
  · exact ⟨by rw [(Cells.made w _ _).cell]; rfl, hn⟩
  · exact ⟨by rw [(Cells.made w _ _).cell]; rfl, hn'⟩
theorem below_alloc (w : World) (o : Obj) : Below w.heap.size w (w.alloc o) := (Below.refl _ w).alloc (Nat.le_refl _) o
end Go.Proofs.YtgeaacabpnepmaaGreatDoor
/- What a step may turn: the disk's words. -/
namespace Go.Proofs.YtgeaacabpnepmaaGreatDoor
end Go.Proofs.YtgeaacabpnepmaaGreatDoor
/- Rows of records, of the program's and the document's type; the contents of a segment in a block of their own, their row behind it. -/
namespace Go.Proofs.YtgeaacabpnepmaaGreatDoor
open Go.RowKit
set_option linter.unusedVariables false
set_option linter.unusedSimpArgs false
set_option maxRecDepth 20000

def Rall (l : List Rc) : List Value := (l.map fun r => (rcs r).toList).flatten
theorem Rall_len (l : List Rc) : (Rall l).length = l.length * 9 := by
  induction l with
  | nil => rfl
  | cons r l ih =>
    have e : Rall (r :: l) = (rcs r).toList ++ Rall l := rfl
    rw [e, List.length_append, ih, List.length_cons]
    simp [rcs]; omega
theorem Rall_snoc (l : List Rc) (r : Rc) : Rall (l ++ [r]) = Rall l ++ (rcs r).toList := by simp [Rall]
theorem rcs_one (r : Rc) : ∀ u ∈ (rcs r).toList, u.oneCell' = true := by
  intro u hu
  simp [rcs] at hu
  rcases hu with rfl | rfl | rfl | rfl | rfl | rfl | rfl | rfl | rfl <;> rfl
theorem rcs_size (r : Rc) : (rcs r).size = 9 := rfl
theorem Rall_at : ∀ (l : List Rc) (j i : Nat) (hj : j < l.length) (v : Value), (rcs (l[j]'hj))[i]? = some v → (Rall l)[j * 9 + i]? = some v
  | a :: r, 0, i, _, v, h => by
    have hi : i < 9 := by obtain ⟨hi, _⟩ := Array.getElem?_eq_some_iff.1 h; simpa [rcs] using hi
    have e : Rall (a :: r) = (rcs a).toList ++ Rall r := rfl
    rw [e, List.getElem?_append_left (by simp [rcs]; omega), Nat.zero_mul, Nat.zero_add, Array.getElem?_toList]
    exact h
  | a :: r, j + 1, i, hj, v, h => by
    have ih := Rall_at r j i (by simpa using hj) v h
    have e : Rall (a :: r) = (rcs a).toList ++ Rall r := rfl
    have hl : (rcs a).toList.length = 9 := rfl
    rw [e, List.getElem?_append_right (by rw [hl]; omega), hl, show (j + 1) * 9 + i - 9 = j * 9 + i by omega]
    exact ih
def RcsAt (w : World) (ao : Option Addr) (l : List Rc) : Prop := ∀ k (hk : k < l.length), ∃ b o, ao = some ⟨b, o, none⟩ ∧ ∀ i v, (rcs (l[k]'hk))[i]? = some v → w.cell? ⟨b, o + k * 9 + i, none⟩ = some v
theorem RcsAt.nil (w : World) (ao : Option Addr) : RcsAt w ao [] := fun k hk => by cases hk
theorem RcsAt.new {w w' : World} {ao : Option Addr} {l : List Rc} (h : RcsAt w ao l) (hb : Below w.heap.size w w') : RcsAt w' ao l := fun k hk => by
  obtain ⟨b, o, e, hc⟩ := h k hk
  refine ⟨b, o, e, fun i v hv => ?_⟩
  have h1 := hc i v hv
  rw [World.cell?_of_block (w := w) (hb.block b (World.block_lt_of_cell? w _ h1))]
  exact h1
theorem rcsAt_row {w : World} {B : Nat} {T : TypeId} {v : Value} {l : List Rc} (h : w.ownsRow B T 9 v l.length (Rall l)) :
    ∃ ao cap, v = .slice ao l.length cap ∧ RcsAt w ao l ∧ (∀ a, ao = some a → B ≤ a.block ∧ a.block < w.heap.size) ∧ l.length ≤ cap ∧ cap ≤ maxLen ∧ (ao = none → cap = 0) := by
  have hc := fun g (e : v.ownBlock = some g) => World.ownsRow.cells (g := g) h e
  have hlt := fun g (e : v.ownBlock = some g) => h.lt g e
  rcases h.2 with ⟨rfl, h0⟩ | ⟨b, cap, cur, rfl, _, _, hcap, hmax, _⟩
  · obtain rfl : l = [] := List.eq_nil_of_length_eq_zero h0
    exact ⟨none, 0, rfl, fun j hj => (by cases hj), fun a e => (by cases e), Nat.le_refl _, Nat.zero_le _, fun _ => rfl⟩
  · refine ⟨_, _, rfl, fun j hj => ⟨b, 0, rfl, fun i v hv => ?_⟩, fun a e => (by cases e; exact hlt b rfl), hcap, hmax, fun e => (by cases e)⟩
    have := hc b rfl (j * 9 + i) v (Rall_at l j i hj v hv)
    rw [show (⟨b, 0 + j * 9 + i, none⟩ : Addr) = (⟨b, 0, none⟩ : Addr).add (j * 9 + i) from by simp [Addr.add, Nat.add_assoc]]
    exact this
theorem RcsAt.tu {w w' : World} {ao : Option Addr} {l : List Rc} {S : Nat → Prop} (h : RcsAt w ao l) (hb : Tu S w w') (hS : ∀ a, ao = some a → ¬ S a.block) : RcsAt w' ao l := fun k hk => by
  obtain ⟨b, o, e, hc⟩ := h k hk
  refine ⟨b, o, e, fun i v hv => ?_⟩
  have h1 := hc i v hv
  rw [World.cell?_of_block (w := w) (hb.block b (World.block_lt_of_cell? w _ h1) (hS _ e))]
  exact h1
theorem Tu.of_same {w w' : World} {g : Nat} (h : w.grownBy w' (some g)) : Tu (fun k => k = g) w w' := ⟨h.os, h.tape, h.output, h.size, fun i hi hn => h.block i hi (fun e => hn (Option.some.inj e))⟩
theorem run_ldR {T : TypeId} (ty : TyA T 9) {w : World} {b o : Nat} {r : Rc} (h : ∀ i v, (rcs r)[i]? = some v → w.cell? ⟨b, o + i, none⟩ = some v) : (ldT T (.pointer (some ⟨b, o, none⟩))).run Tryz.prog w = .ok (.agg (rcs r)) w := by
  have hl := run_loadCells_list (P := Tryz.prog) w ⟨b, o, none⟩ (rcs r).toList (fun j v hv => by
    have hadd : (⟨b, o, none⟩ : Addr).add j = ⟨b, o + j, none⟩ := by unfold Addr.add; split <;> simp_all
    rw [hadd]
    exact h j v (by simpa using hv))
  have hlen : (rcs r).toList.length = 9 := rfl
  rw [hlen] at hl
  obtain ⟨i, hi, hs⟩ := Option.map_eq_some_iff.1 ty.info
  simp [ldT, Instr.loadAt, Instr.sureAddr, loadVar, ty.agg w, sizeOf, typeInfo, hi, hs, hl]
theorem run_ldC {T : TypeId} (ty : TyO T) {w : World} {b o : Nat} {v : Value} (hc : w.cell? ⟨b, o, none⟩ = some v) : (ldT T (.pointer (some ⟨b, o, none⟩))).run Tryz.prog w = .ok v w := by
  simp [ldT, Instr.loadAt, Instr.sureAddr, loadVar, ty.agg w, hc, go_sem]
theorem RcsAt.one {w : World} {ao : Option Addr} {l : List Rc} (h : RcsAt w ao l) {k : Nat} (hk : k < l.length) : ∃ b o, ao = some ⟨b, o, none⟩ ∧
    ∀ W, Below w.heap.size w W → (∀ T, TyA T 9 → (ldT T (.pointer (some ⟨b, o + k * 9, none⟩))).run Tryz.prog W = .ok (.agg (rcs (l[k]'hk))) W) ∧ ∀ i v, (rcs (l[k]'hk))[i]? = some v → W.cell? ⟨b, o + k * 9 + i, none⟩ = some v := by
  obtain ⟨b, o, e, hc⟩ := h k hk
  refine ⟨b, o, e, fun W hW => ?_⟩
  obtain ⟨b', o', e', hc'⟩ := h.new hW k hk
  rw [e] at e'
  cases e'
  exact ⟨fun T ty => run_ldR ty hc', hc'⟩

theorem own_low {w : World} {B B' : Nat} {e : TypeId} {k n : Nat} {v : Value} {xs : List Value} (h : w.ownsRow B e k v n xs) (hB : B' ≤ B) : w.ownsRow B' e k v n xs :=
  ⟨h.1, h.2.imp id fun ⟨g, cap, cur, hv, hb, hr⟩ => ⟨g, cap, cur, hv, Nat.le_trans hB hb, hr⟩⟩
structure Rcr (T : TypeId) (B : Nat) (w : World) (bs : List Nat) (ao : Option Addr) (n cap : Nat) (l : List Rc) : Prop where
  own : w.ownsRow B T 9 (.slice ao n cap) n (Rall l)
  len : l.length = n
  far : ∀ b ∈ bs, (Value.slice ao n cap).ownBlock ≠ some b
  lo : ∀ b ∈ bs, b < w.heap.size
section
variable {T TS : TypeId} {B B0 : Nat} {w0 w w' : World} {L L' : List (Nat × TypeId × Array Value)} {bs : List Nat} {ao : Option Addr} {n cap : Nat} {l : List Rc}
theorem Rcr.none (T : TypeId) (B : Nat) (w : World) (bs : List Nat) (hl : ∀ b ∈ bs, b < w.heap.size) : Rcr T B w bs none 0 0 [] := ⟨World.ownsRow_nil _ _ _ _, rfl, fun b _ h => (by cases h), hl⟩
theorem Rcr.to (h : Rcr T B w bs ao n cap l) (hb : Below w.heap.size w w') : Rcr T B w' bs ao n cap l :=
  ⟨h.own.kept (grown_of_below (r := Option.none) hb) (by cases hv : (Value.slice ao n cap).ownBlock <;> simp), h.len, h.far, fun b hbb => Nat.lt_of_lt_of_le (h.lo b hbb) hb.size⟩
theorem Rcr.turn (h : Rcr T B w bs ao n cap l) {g : Nat} (hg : g ∈ bs) (hb : w.grownBy w' (some g)) : Rcr T B w' bs ao n cap l :=
  ⟨h.own.kept hb (.inr (h.far g hg)), h.len, h.far, fun b hbb => Nat.lt_of_lt_of_le (h.lo b hbb) hb.size⟩
theorem Rcr.less (h : Rcr T B w bs ao n cap l) {bs' : List Nat} (hs : ∀ b ∈ bs', b ∈ bs) : Rcr T B w bs' ao n cap l := ⟨h.own, h.len, fun b hb => h.far b (hs b hb), fun b hb => h.lo b (hs b hb)⟩
theorem Rcr.fresh (h : Rcr T B w bs ao n cap l) (hg : Below w.heap.size w w') {g : Nat} (e : w.heap.size ≤ g) (hlt : g < w'.heap.size) : Rcr T B w' (bs ++ [g]) ao n cap l := by
  have h1 := h.to hg
  refine ⟨h1.own, h1.len, fun b hb e' => ?_, fun b hb => ?_⟩
  · rcases List.mem_append.1 hb with hb | hb
    · exact h.far b hb e'
    · rw [List.mem_singleton] at hb
      have := (h.own.lt b e').2
      omega
  · rcases List.mem_append.1 hb with hb | hb
    · exact h1.lo b hb
    · rw [List.mem_singleton] at hb; omega
theorem Rcr.told (h : Rcr T B w bs ao n cap l) : RcsAt w ao l ∧ (∀ a, ao = some a → B ≤ a.block ∧ a.block < w.heap.size) ∧ n ≤ cap ∧ cap ≤ maxLen ∧ (ao = Option.none → cap = 0) := by
  have h1 := h.own
  rw [← h.len] at h1 ⊢
  obtain ⟨a, c, e, h2⟩ := rcsAt_row h1
  injection e with e1 e2 e3
  subst e1 e3
  exact h2
theorem Loc.ownR (h : Loc B0 w0 w L) (hB : B0 ≤ B) (hr : Rcr T B w bs ao n cap l) (hbs : ∀ e ∈ L, e.1 ∈ bs) (hb : w.grownBy w' (Value.slice ao n cap).ownBlock) : Loc B0 w0 w' L := by
  cases hv : (Value.slice ao n cap).ownBlock with
  | none => rw [hv] at hb; exact h.grown hb
  | some r =>
    rw [hv] at hb
    exact h.row hb (Nat.le_trans hB (hr.own.lt r hv).1) (fun e he q => hr.far e.1 (hbs e he) (by rw [hv, q]))
theorem app_rec {o : Oper} {a : Act} {K : Act → World → Prop} {Q : Exit → Act → World → Prop} (hu : Tryz.prog.underlying TS = some (.slice T)) (hi : (Tryz.prog.info? T).map (fun i => (i.zero, i.size, i.bytes)) = some (some (.agg (rcs rz)), 9, 56)) (s x : Operand)
    (ho : o.op = .call { callee := .builtin .append, args := #[s, x], argTypes := #[TS, TS] }) (hs : a.eval s = .slice ao n cap) (r : Rc) (hx : a.eval x = .slice (some ⟨w.heap.size, 0, none⟩) 1 1)
    (hR : Rcr T B w bs ao n cap l) (hL : Loc B0 w0 w L) (hB : B0 ≤ B) (hB2 : B ≤ w.heap.size) (hbs : ∀ e ∈ L, e.1 ∈ bs) (hn : n ≤ 1000000)
    (h : ∀ r' cap' w', Rcr T B w' bs (some ⟨r', 0, none⟩) (n + 1) cap' (l ++ [r]) → Loc B0 w0 w' L → K (a.put o.dst (.slice (some ⟨r', 0, none⟩) (n + 1) cap')) w') :
    Oper.wp Tryz.prog o a (w.alloc (.cells (rcs r) T)) K Q := by
  obtain ⟨i0, hi0, hz0, hz1, hz2⟩ := info_parts hi
  have hal : w.grownBy (w.alloc (.cells (rcs r) T)) none := grown_alloc _ _
  have hR1 : Rcr T B (w.alloc (.cells (rcs r) T)) bs ao n cap l := hR.to (below_of_grown hal)
  have hL1 : Loc B0 w0 (w.alloc (.cells (rcs r) T)) L := hL.grown hal
  have hc : Cells (w.alloc (.cells (rcs r) T)) w.heap.size T (rcs r) := Cells.made w _ _
  refine wp_append_lies (w.alloc (.cells (rcs r) T)) s x TS ho B T i0 (.agg (rcs rz)) 9 56 hu hi0 hz0 hz1 hz2 rfl (by decide) (.slice ao n cap) n (Rall l) hs hR1.own ⟨w.heap.size, 0, none⟩ 1 1 (rcs r).toList hx rfl (fun j u hu => ?_) (rcs_one r) (by decide) (by simp only [maxLen]; omega) (by omega) (by have := hal.size; omega) _ rfl ?_
  · have hadd : (⟨w.heap.size, 0, none⟩ : Addr).add j = ⟨w.heap.size, j, none⟩ := by unfold Addr.add; split <;> simp_all
    rw [hadd, hc.cell, ← Array.getElem?_toList]; exact hu
  · intro g' cap' w1 hown1 hgr hat hlt1
    rw [← Rall_snoc] at hown1
    refine h g' cap' w1 ⟨hown1, by simp [hR.len], fun b hb e => ?_, fun b hb => Nat.lt_of_lt_of_le (hR1.lo b hb) hgr.size⟩ (hL1.ownR hB hR1 hbs hgr)
    have e : g' = b := by simpa [Value.ownBlock] using e
    subst e
    rcases hat with hat | hat
    · exact hR.far g' hb hat
    · have h1 := hR1.lo g' hb
      omega
theorem wpList_append_rec {ops : Array Oper} {rest : List Oper} {o : Oper} {a : Act} {Q : Exit → Act → World → Prop} (hu : Tryz.prog.underlying TS = some (.slice T)) (hi : (Tryz.prog.info? T).map (fun i => (i.zero, i.size, i.bytes)) = some (some (.agg (rcs rz)), 9, 56)) (hgd : o.guard = none) (s x : Operand)
    (ho : o.op = .call { callee := .builtin .append, args := #[s, x], argTypes := #[TS, TS] }) (hs : a.eval s = .slice ao n cap) (r : Rc) (hx : a.eval x = .slice (some ⟨w.heap.size, 0, none⟩) 1 1)
    (hR : Rcr T B w bs ao n cap l) (hL : Loc B0 w0 w L) (hB : B0 ≤ B) (hB2 : B ≤ w.heap.size) (hbs : ∀ e ∈ L, e.1 ∈ bs) (hn : n ≤ 1000000)
    (h : ∀ r' cap' w', Rcr T B w' bs (some ⟨r', 0, none⟩) (n + 1) cap' (l ++ [r]) → Loc B0 w0 w' L → wpList Tryz.prog ops Q rest (a.put o.dst (.slice (some ⟨r', 0, none⟩) (n + 1) cap')) w') :
    wpList Tryz.prog ops Q (o :: rest) a (w.alloc (.cells (rcs r) T)) :=
  wpList_plain hgd fun _ hK => app_rec hu hi s x ho hs r hx hR hL hB hB2 hbs hn fun r' cap' w' h1 h2 => hK _ _ (h r' cap' w' h1 h2)
theorem step_append_rec {ops : Array Oper} {o : Oper} {a : Act} {K : Act → World → Prop} {E : Prop} {Q : Exit → Act → World → Prop} (hu : Tryz.prog.underlying TS = some (.slice T)) (hi : (Tryz.prog.info? T).map (fun i => (i.zero, i.size, i.bytes)) = some (some (.agg (rcs rz)), 9, 56)) (hgd : o.guard = none) (s x : Operand)
    (ho : o.op = .call { callee := .builtin .append, args := #[s, x], argTypes := #[TS, TS] }) (hs : a.eval s = .slice ao n cap) (r : Rc) (hx : a.eval x = .slice (some ⟨w.heap.size, 0, none⟩) 1 1)
    (hR : Rcr T B w bs ao n cap l) (hL : Loc B0 w0 w L) (hB : B0 ≤ B) (hB2 : B ≤ w.heap.size) (hbs : ∀ e ∈ L, e.1 ∈ bs) (hn : n ≤ 1000000)
    (h : ∀ r' cap' w', Rcr T B w' bs (some ⟨r', 0, none⟩) (n + 1) cap' (l ++ [r]) → Loc B0 w0 w' L → K (a.put o.dst (.slice (some ⟨r', 0, none⟩) (n + 1) cap')) w') :
    if Region.wanted o (yielded ops a.tmps) = true then Oper.wp Tryz.prog o a (w.alloc (.cells (rcs r) T)) K Q else E := by
  have hw : Region.wanted o (yielded ops a.tmps) = true := by simp [Region.wanted, hgd]
  rw [if_pos hw]
  exact app_rec hu hi s x ho hs r hx hR hL hB hB2 hbs hn h
end

/-! The contents in block g, their row in blocks behind it. -/
def ccs (n : Nat) (x : Sg) (v : List Nat) (ao : Option Addr) (cap : Nat) : Array Value :=
  (.int .u64 (n : Int) :: ((rcs x.h).toList ++ (.slice ao x.l.length cap :: .int .u64 (x.c : Int) :: .int .u64 (x.o : Int) :: v.map fun i : Nat => Value.int .u8 (i : Int)))).toArray
structure CtC (w : World) (g n : Nat) (x : Sg) (v : List Nat) (ao : Option Addr) (cap : Nat) : Prop where
  blk : Cells w g 280 (ccs n x v ao cap)
  row : w.ownsRow (g + 1) 114 9 (.slice ao x.l.length cap) x.l.length (Rall x.l)
  okg : Okg n x
  inp : Inps x v
  few : x.l.length ≤ 1000000
def CtE (w : World) (g n : Nat) (x : Sg) : Prop := ∃ v ao cap, CtC w g n x v ao cap
theorem CtC.rcr {w : World} {g n : Nat} {x : Sg} {v : List Nat} {ao : Option Addr} {cap : Nat} (h : CtC w g n x v ao cap) : Rcr 114 (g + 1) w [g] ao x.l.length cap x.l :=
  ⟨h.row, rfl, fun b hb e => by rw [List.mem_singleton] at hb; subst hb; have := (h.row.lt b e).1; omega, fun b hb => by rw [List.mem_singleton] at hb; subst hb; exact h.blk.lt⟩
theorem CtC.to {w w' : World} {g n : Nat} {x : Sg} {v : List Nat} {ao : Option Addr} {cap : Nat} (h : CtC w g n x v ao cap) (hb : Below w.heap.size w w') : CtC w' g n x v ao cap :=
  ⟨h.blk.below hb h.blk.lt, h.row.kept (grown_of_below (r := none) hb) (by cases hv : (Value.slice ao x.l.length cap).ownBlock <;> simp), h.okg, h.inp, h.few⟩
section
variable (n : Nat) (x : Sg) (v : List Nat) (ao : Option Addr) (cap : Nat)
theorem ccs_size (hv : v.length = 12) : (ccs n x v ao cap).size = 25 := by simp [ccs, rcs, hv]
theorem ccs0 : (ccs n x v ao cap)[0]? = some (.int .u64 (n : Int)) := by simp [ccs, rcs]
theorem ccs1 : (ccs n x v ao cap)[1]? = some (.int .i64 x.h.k) := by simp [ccs, rcs]
theorem ccs9 : (ccs n x v ao cap)[9]? = some (.int .u8 (x.h.y : Int)) := by simp [ccs, rcs]
theorem ccs10 : (ccs n x v ao cap)[10]? = some (.slice ao x.l.length cap) := by simp [ccs, rcs]
theorem ccs11 : (ccs n x v ao cap)[11]? = some (.int .u64 (x.c : Int)) := by simp [ccs, rcs]
theorem ccs12 : (ccs n x v ao cap)[12]? = some (.int .u64 (x.o : Int)) := by simp [ccs, rcs]
theorem ccs_inp {i k : Nat} (h : v[i]? = some k) : (ccs n x v ao cap)[13 + i]? = some (.int .u8 (k : Int)) := by
  rw [Nat.add_comm]
  simp [ccs, rcs, h]
theorem ccs_head : (((ccs n x v ao cap).toList.drop 1).take 9).toArray = rcs x.h := by simp [ccs, rcs]
theorem ccs_setHead (h : Rc) (hv : v.length = 12) : ((ccs n x v ao cap).toList.take 1 ++ (rcs h).toList ++ (ccs n x v ao cap).toList.drop (1 + 9)).toArray = ccs n ⟨true, h, x.l, x.c, x.o⟩ v ao cap := by simp [ccs, rcs]
theorem ccs_setC (k : Nat) : ((ccs n x v ao cap).toList.take 11 ++ [Value.int .u64 (k : Int)] ++ (ccs n x v ao cap).toList.drop (11 + 1)).toArray = ccs n ⟨x.b, x.h, x.l, k, x.o⟩ v ao cap := by simp [ccs, rcs]
theorem ccs_setO (k : Nat) : ((ccs n x v ao cap).toList.take 12 ++ [Value.int .u64 (k : Int)] ++ (ccs n x v ao cap).toList.drop (12 + 1)).toArray = ccs n ⟨x.b, x.h, x.l, x.c, k⟩ v ao cap := by simp [ccs, rcs]
theorem ccs_setL (l : List Rc) (a : Option Addr) (c m : Nat) (hm : m = l.length) : ((ccs n x v ao cap).toList.take 10 ++ [Value.slice a m c] ++ (ccs n x v ao cap).toList.drop (10 + 1)).toArray = ccs n ⟨x.b, x.h, l, x.c, x.o⟩ v a c := by subst hm; simp [ccs, rcs]
theorem ccs_setI (i k : Nat) (hi : i < v.length) : ((ccs n x v ao cap).toList.take (13 + i) ++ [Value.int .u8 (k : Int)] ++ (ccs n x v ao cap).toList.drop (13 + i + 1)).toArray = ccs n x (v.set i k) ao cap := by
  have e : (ccs n x v ao cap).toList = (Value.int .u64 (n : Int) :: ((rcs x.h).toList ++ [.slice ao x.l.length cap, .int .u64 (x.c : Int), .int .u64 (x.o : Int)])) ++ v.map fun i : Nat => Value.int .u8 (i : Int) := by simp [ccs, rcs]
  have hl : (Value.int .u64 (n : Int) :: ((rcs x.h).toList ++ [.slice ao x.l.length cap, .int .u64 (x.c : Int), .int .u64 (x.o : Int)])).length = 13 := rfl
  have e2 : (ccs n x (v.set i k) ao cap) = ((Value.int .u64 (n : Int) :: ((rcs x.h).toList ++ [.slice ao x.l.length cap, .int .u64 (x.c : Int), .int .u64 (x.o : Int)])) ++ (v.set i k).map fun i : Nat => Value.int .u8 (i : Int)).toArray := by simp [ccs, rcs]
  rw [e, e2]
  generalize (Value.int .u64 (n : Int) :: ((rcs x.h).toList ++ [.slice ao x.l.length cap, .int .u64 (x.c : Int), .int .u64 (x.o : Int)])) = H at hl
  congr 1
  rw [List.take_append, List.take_of_length_le (by omega), List.drop_append, List.drop_of_length_le (by omega), hl, show 13 + i - 13 = i by omega, show 13 + i + 1 - 13 = i + 1 by omega, List.map_set, List.set_eq_take_append_cons_drop, if_pos (by simpa using hi)]
  simp
end
theorem ty_cont : TyA 280 25 := tya_struct Tryz.underlying280 (by kernel_rfl)
theorem ty_recs : TyO 127 := tyo_of Tryz.underlying127 rfl (by kernel_rfl)
theorem ld_recs (v : Value) : Instr.loadAt 127 v = ldT 127 v := rfl
theorem st_recs (p v : Value) : Instr.storeAt 127 p v = stT 127 p v := rfl
theorem st_cont (p v : Value) : Instr.storeAt 280 p v = stT 280 p v := rfl
theorem info_rec : (Tryz.prog.info? 114).map (fun i => (i.zero, i.size, i.bytes)) = some (some (.agg (rcs rz)), 9, 56) := by kernel_rfl
theorem bs_of {T TS : TypeId} (hu : Tryz.prog.underlying TS = some (.slice T)) (hi : (Tryz.prog.info? T).map (fun i => (i.zero, i.size, i.bytes)) = some (some (.agg (rcs rz)), 9, 56)) (r : Rc) (w : World) :
    (Instr.buildSlice TS 1 #[(0, .agg (rcs r))]).run Tryz.prog w = .ok (.slice (some ⟨w.heap.size, 0, none⟩) 1 1) (w.alloc (.cells (rcs r) T)) := by
  obtain ⟨i0, hi0, hz0, hz1, hz2⟩ := info_parts hi
  have hf : Instr.fill (fun i => some (i * 9, 9)) ((Array.range (1 * 9)).map fun x => (rcs rz)[x % (rcs rz).size]!) [(0, Value.agg (rcs r))] = some (rcs r) := by
    have h0 : ((Array.range (1 * 9)).map fun x => (rcs rz)[x % (rcs rz).size]!) = rcs rz := by kernel_rfl
    rw [h0]
    simp [Instr.fill, rcs, Value.cells]
  simp [Instr.buildSlice, run_underlying hu, sizeOf, typeInfo, zeroValue, hi0, hz0, hz1, newRow, go_sem, Value.cells, Instr.fill] at hf ⊢
  rw [if_neg (by rw [rcs_size]; omega), hf.2]
  simp [go_sem]
def bsM (TS : TypeId) (ps : Array (Nat × Value)) : Sem Value := Instr.buildSlice TS 1 ps
theorem bs_m (ps : Array (Nat × Value)) : Instr.buildSlice 127 1 ps = bsM 127 ps := rfl
theorem bs_rec (r : Rc) (w : World) : (bsM 127 #[(0, .agg (rcs r))]).run Tryz.prog w = .ok (.slice (some ⟨w.heap.size, 0, none⟩) 1 1) (w.alloc (.cells (rcs r) 114)) := bs_of Tryz.underlying127 info_rec r w
end Go.Proofs.YtgeaacabpnepmaaGreatDoor
