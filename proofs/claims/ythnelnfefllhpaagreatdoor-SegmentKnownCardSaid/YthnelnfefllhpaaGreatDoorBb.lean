/- Rows of records, of the program's and the document's type; the contents of a segment in a block of their own, their row behind it. -/
import Derived.Test.YthnelnfefllhpaaGreatDoorBa
import Derived.Test.YthnelnfefllhpaaGreatDoorQz
import Derived.Test.YthnelnfefllhpaaGreatDoorTu
import Derived.Deep.AppendLies
namespace Go.Proofs.YthnelnfefllhpaaGreatDoor
open Go.RowKit
set_option linter.unusedVariables false
set_option linter.unusedSimpArgs false
set_option maxRecDepth 20000

def Rall (l : List Rc) : List Value := (l.map fun r => (rcs r).toList).flatten
theorem Rall_len (l : List Rc) : (Rall l).length = l.length * 9 := by
  induction l with
  | nil => rfl
  | cons r l ih =>
    have e : Rall (r :: l) = (rcs r).toList ++ Rall l := rfl
    rw [e, List.length_append, ih, List.length_cons]
    simp [rcs]; omega
theorem Rall_snoc (l : List Rc) (r : Rc) : Rall (l ++ [r]) = Rall l ++ (rcs r).toList := by simp [Rall]
theorem Rall_one (r : Rc) : Rall [r] = (rcs r).toList := by simp [Rall]
theorem rcs_one (r : Rc) : ∀ u ∈ (rcs r).toList, u.oneCell' = true := by
  intro u hu
  simp [rcs] at hu
  rcases hu with rfl | rfl | rfl | rfl | rfl | rfl | rfl | rfl | rfl <;> rfl
theorem rcs_size (r : Rc) : (rcs r).size = 9 := rfl
theorem Rall_at : ∀ (l : List Rc) (j i : Nat) (hj : j < l.length) (v : Value), (rcs (l[j]'hj))[i]? = some v → (Rall l)[j * 9 + i]? = some v
  | a :: r, 0, i, _, v, h => by
    have hi : i < 9 := by obtain ⟨hi, _⟩ := Array.getElem?_eq_some_iff.1 h; simpa [rcs] using hi
    have e : Rall (a :: r) = (rcs a).toList ++ Rall r := rfl
    rw [e, List.getElem?_append_left (by simp [rcs]; omega), Nat.zero_mul, Nat.zero_add, Array.getElem?_toList]
    exact h
  | a :: r, j + 1, i, hj, v, h => by
    have ih := Rall_at r j i (by simpa using hj) v h
    have e : Rall (a :: r) = (rcs a).toList ++ Rall r := rfl
    have hl : (rcs a).toList.length = 9 := rfl
    rw [e, List.getElem?_append_right (by rw [hl]; omega), hl, show (j + 1) * 9 + i - 9 = j * 9 + i by omega]
    exact ih
/-- Records that can be read. -/
def RcsAt (w : World) (ao : Option Addr) (l : List Rc) : Prop := ∀ k (hk : k < l.length), ∃ b o, ao = some ⟨b, o, none⟩ ∧ ∀ i v, (rcs (l[k]'hk))[i]? = some v → w.cell? ⟨b, o + k * 9 + i, none⟩ = some v
theorem RcsAt.nil (w : World) (ao : Option Addr) : RcsAt w ao [] := fun k hk => by cases hk
theorem RcsAt.new {w w' : World} {ao : Option Addr} {l : List Rc} (h : RcsAt w ao l) (hb : Below w.heap.size w w') : RcsAt w' ao l := fun k hk => by
  obtain ⟨b, o, e, hc⟩ := h k hk
  refine ⟨b, o, e, fun i v hv => ?_⟩
  have h1 := hc i v hv
  rw [World.cell?_of_block (w := w) (hb.block b (World.block_lt_of_cell? w _ h1))]
  exact h1
theorem rcsAt_row {w : World} {B : Nat} {T : TypeId} {v : Value} {l : List Rc} (h : w.ownsRow B T 9 v l.length (Rall l)) :
    ∃ ao cap, v = .slice ao l.length cap ∧ RcsAt w ao l ∧ (∀ a, ao = some a → B ≤ a.block ∧ a.block < w.heap.size) ∧ l.length ≤ cap ∧ cap ≤ maxLen ∧ (ao = none → cap = 0) := by
  have hc := fun g (e : v.ownBlock = some g) => World.ownsRow.cells (g := g) h e
  have hlt := fun g (e : v.ownBlock = some g) => h.lt g e
  rcases h.2 with ⟨rfl, h0⟩ | ⟨b, cap, cur, rfl, _, _, hcap, hmax, _⟩
  · obtain rfl : l = [] := List.eq_nil_of_length_eq_zero h0
    exact ⟨none, 0, rfl, fun j hj => (by cases hj), fun a e => (by cases e), Nat.le_refl _, Nat.zero_le _, fun _ => rfl⟩
  · refine ⟨_, _, rfl, fun j hj => ⟨b, 0, rfl, fun i v hv => ?_⟩, fun a e => (by cases e; exact hlt b rfl), hcap, hmax, fun e => (by cases e)⟩
    have := hc b rfl (j * 9 + i) v (Rall_at l j i hj v hv)
    rw [show (⟨b, 0 + j * 9 + i, none⟩ : Addr) = (⟨b, 0, none⟩ : Addr).add (j * 9 + i) from by simp [Addr.add, Nat.add_assoc]]
    exact this
theorem RcsAt.tu {w w' : World} {ao : Option Addr} {l : List Rc} {S : Nat → Prop} (h : RcsAt w ao l) (hb : Tu S w w') (hS : ∀ a, ao = some a → ¬ S a.block) : RcsAt w' ao l := fun k hk => by
  obtain ⟨b, o, e, hc⟩ := h k hk
  refine ⟨b, o, e, fun i v hv => ?_⟩
  have h1 := hc i v hv
  rw [World.cell?_of_block (w := w) (hb.block b (World.block_lt_of_cell? w _ h1) (hS _ e))]
  exact h1
theorem Tu.of_same {w w' : World} {g : Nat} (h : w.grownBy w' (some g)) : Tu (fun k => k = g) w w' := ⟨h.os, h.tape, h.output, h.size, fun i hi hn => h.block i hi (fun e => hn (Option.some.inj e))⟩
theorem run_ldR {T : TypeId} (ty : TyA T 9) {w : World} {b o : Nat} {r : Rc} (h : ∀ i v, (rcs r)[i]? = some v → w.cell? ⟨b, o + i, none⟩ = some v) : (ldT T (.pointer (some ⟨b, o, none⟩))).run Tryz.prog w = .ok (.agg (rcs r)) w := by
  have hl := run_loadCells_list (P := Tryz.prog) w ⟨b, o, none⟩ (rcs r).toList (fun j v hv => by
    have hadd : (⟨b, o, none⟩ : Addr).add j = ⟨b, o + j, none⟩ := by unfold Addr.add; split <;> simp_all
    rw [hadd]
    exact h j v (by simpa using hv))
  have hlen : (rcs r).toList.length = 9 := rfl
  rw [hlen] at hl
  obtain ⟨i, hi, hs⟩ := Option.map_eq_some_iff.1 ty.info
  simp [ldT, Instr.loadAt, Instr.sureAddr, loadVar, ty.agg w, sizeOf, typeInfo, hi, hs, hl]
theorem run_ldC {T : TypeId} (ty : TyO T) {w : World} {b o : Nat} {v : Value} (hc : w.cell? ⟨b, o, none⟩ = some v) : (ldT T (.pointer (some ⟨b, o, none⟩))).run Tryz.prog w = .ok v w := by
  simp [ldT, Instr.loadAt, Instr.sureAddr, loadVar, ty.agg w, hc, go_sem]
/-- One of them, whole, in each world that differs in new blocks alone. -/
theorem RcsAt.one {w : World} {ao : Option Addr} {l : List Rc} (h : RcsAt w ao l) {k : Nat} (hk : k < l.length) : ∃ b o, ao = some ⟨b, o, none⟩ ∧
    ∀ W, Below w.heap.size w W → (∀ T, TyA T 9 → (ldT T (.pointer (some ⟨b, o + k * 9, none⟩))).run Tryz.prog W = .ok (.agg (rcs (l[k]'hk))) W) ∧ ∀ i v, (rcs (l[k]'hk))[i]? = some v → W.cell? ⟨b, o + k * 9 + i, none⟩ = some v := by
  obtain ⟨b, o, e, hc⟩ := h k hk
  refine ⟨b, o, e, fun W hW => ?_⟩
  obtain ⟨b', o', e', hc'⟩ := h.new hW k hk
  rw [e] at e'
  cases e'
  exact ⟨fun T ty => run_ldR ty hc', hc'⟩

theorem own_low {w : World} {B B' : Nat} {e : TypeId} {k n : Nat} {v : Value} {xs : List Value} (h : w.ownsRow B e k v n xs) (hB : B' ≤ B) : w.ownsRow B' e k v n xs :=
  ⟨h.1, h.2.imp id fun ⟨g, cap, cur, hv, hb, hr⟩ => ⟨g, cap, cur, hv, Nat.le_trans hB hb, hr⟩⟩
/-- A row of records of one's own, at B or beyond, none of these blocks. -/
structure Rcr (T : TypeId) (B : Nat) (w : World) (bs : List Nat) (ao : Option Addr) (n cap : Nat) (l : List Rc) : Prop where
  own : w.ownsRow B T 9 (.slice ao n cap) n (Rall l)
  len : l.length = n
  far : ∀ b ∈ bs, (Value.slice ao n cap).ownBlock ≠ some b
  lo : ∀ b ∈ bs, b < w.heap.size
section
variable {T TS : TypeId} {B B0 : Nat} {w0 w w' : World} {L L' : List (Nat × TypeId × Array Value)} {bs : List Nat} {ao : Option Addr} {n cap : Nat} {l : List Rc}
theorem Rcr.none (T : TypeId) (B : Nat) (w : World) (bs : List Nat) (hl : ∀ b ∈ bs, b < w.heap.size) : Rcr T B w bs none 0 0 [] := ⟨World.ownsRow_nil _ _ _ _, rfl, fun b _ h => (by cases h), hl⟩
theorem Rcr.to (h : Rcr T B w bs ao n cap l) (hb : Below w.heap.size w w') : Rcr T B w' bs ao n cap l :=
  ⟨h.own.kept (grown_of_below (r := Option.none) hb) (by cases hv : (Value.slice ao n cap).ownBlock <;> simp), h.len, h.far, fun b hbb => Nat.lt_of_lt_of_le (h.lo b hbb) hb.size⟩
theorem Rcr.turn (h : Rcr T B w bs ao n cap l) {g : Nat} (hg : g ∈ bs) (hb : w.grownBy w' (some g)) : Rcr T B w' bs ao n cap l :=
  ⟨h.own.kept hb (.inr (h.far g hg)), h.len, h.far, fun b hbb => Nat.lt_of_lt_of_le (h.lo b hbb) hb.size⟩
theorem Rcr.less (h : Rcr T B w bs ao n cap l) {bs' : List Nat} (hs : ∀ b ∈ bs', b ∈ bs) : Rcr T B w bs' ao n cap l := ⟨h.own, h.len, fun b hb => h.far b (hs b hb), fun b hb => h.lo b (hs b hb)⟩
theorem Rcr.low {B' : Nat} (h : Rcr T B w bs ao n cap l) (hB : B' ≤ B) : Rcr T B' w bs ao n cap l := ⟨own_low h.own hB, h.len, h.far, h.lo⟩
theorem Rcr.fresh (h : Rcr T B w bs ao n cap l) (hg : Below w.heap.size w w') {g : Nat} (e : w.heap.size ≤ g) (hlt : g < w'.heap.size) : Rcr T B w' (bs ++ [g]) ao n cap l := by
  have h1 := h.to hg
  refine ⟨h1.own, h1.len, fun b hb e' => ?_, fun b hb => ?_⟩
  · rcases List.mem_append.1 hb with hb | hb
    · exact h.far b hb e'
    · rw [List.mem_singleton] at hb
      have := (h.own.lt b e').2
      omega
  · rcases List.mem_append.1 hb with hb | hb
    · exact h1.lo b hb
    · rw [List.mem_singleton] at hb; omega
theorem Rcr.apart (h : Rcr T B w bs ao n cap l) {bs' : List Nat} (hb : ∀ b ∈ bs', b < B) (hw : B ≤ w.heap.size) : Rcr T B w bs' ao n cap l :=
  ⟨h.own, h.len, fun b hbb e => by have h1 := (h.own.lt b e).1; have h2 := hb b hbb; omega, fun b hbb => Nat.lt_of_lt_of_le (hb b hbb) hw⟩
theorem Rcr.told (h : Rcr T B w bs ao n cap l) : RcsAt w ao l ∧ (∀ a, ao = some a → B ≤ a.block ∧ a.block < w.heap.size) ∧ n ≤ cap ∧ cap ≤ maxLen ∧ (ao = Option.none → cap = 0) := by
  have h1 := h.own
  rw [← h.len] at h1 ⊢
  obtain ⟨a, c, e, h2⟩ := rcsAt_row h1
  injection e with e1 e2 e3
  subst e1 e3
  exact h2
theorem Loc.ownR (h : Loc B0 w0 w L) (hB : B0 ≤ B) (hr : Rcr T B w bs ao n cap l) (hbs : ∀ e ∈ L, e.1 ∈ bs) (hb : w.grownBy w' (Value.slice ao n cap).ownBlock) : Loc B0 w0 w' L := by
  cases hv : (Value.slice ao n cap).ownBlock with
  | none => rw [hv] at hb; exact h.grown hb
  | some r =>
    rw [hv] at hb
    exact h.row hb (Nat.le_trans hB (hr.own.lt r hv).1) (fun e he q => hr.far e.1 (hbs e he) (by rw [hv, q]))
/-- append(row, record): the literal's block is new. -/
theorem app_rec {o : Oper} {a : Act} {K : Act → World → Prop} {Q : Exit → Act → World → Prop} (hu : Tryz.prog.underlying TS = some (.slice T)) (hi : (Tryz.prog.info? T).map (fun i => (i.zero, i.size, i.bytes)) = some (some (.agg (rcs rz)), 9, 56)) (s x : Operand)
    (ho : o.op = .call { callee := .builtin .append, args := #[s, x], argTypes := #[TS, TS] }) (hs : a.eval s = .slice ao n cap) (r : Rc) (hx : a.eval x = .slice (some ⟨w.heap.size, 0, none⟩) 1 1)
    (hR : Rcr T B w bs ao n cap l) (hL : Loc B0 w0 w L) (hB : B0 ≤ B) (hB2 : B ≤ w.heap.size) (hbs : ∀ e ∈ L, e.1 ∈ bs) (hn : n ≤ 1000000)
    (h : ∀ r' cap' w', Rcr T B w' bs (some ⟨r', 0, none⟩) (n + 1) cap' (l ++ [r]) → Loc B0 w0 w' L → K (a.put o.dst (.slice (some ⟨r', 0, none⟩) (n + 1) cap')) w') :
    Oper.wp Tryz.prog o a (w.alloc (.cells (rcs r) T)) K Q := by
  obtain ⟨i0, hi0, hz0, hz1, hz2⟩ := info_parts hi
  have hal : w.grownBy (w.alloc (.cells (rcs r) T)) none := grown_alloc _ _
  have hR1 : Rcr T B (w.alloc (.cells (rcs r) T)) bs ao n cap l := hR.to (below_of_grown hal)
  have hL1 : Loc B0 w0 (w.alloc (.cells (rcs r) T)) L := hL.grown hal
  have hc : Cells (w.alloc (.cells (rcs r) T)) w.heap.size T (rcs r) := Cells.made w _ _
  refine wp_append_lies (w.alloc (.cells (rcs r) T)) s x TS ho B T i0 (.agg (rcs rz)) 9 56 hu hi0 hz0 hz1 hz2 rfl (by decide) (.slice ao n cap) n (Rall l) hs hR1.own ⟨w.heap.size, 0, none⟩ 1 1 (rcs r).toList hx rfl (fun j u hu => ?_) (rcs_one r) (by decide) (by simp only [maxLen]; omega) (by omega) (by have := hal.size; omega) _ rfl ?_
  · have hadd : (⟨w.heap.size, 0, none⟩ : Addr).add j = ⟨w.heap.size, j, none⟩ := by unfold Addr.add; split <;> simp_all
    rw [hadd, hc.cell, ← Array.getElem?_toList]; exact hu
  · intro g' cap' w1 hown1 hgr hat hlt1
    rw [← Rall_snoc] at hown1
    refine h g' cap' w1 ⟨hown1, by simp [hR.len], fun b hb e => ?_, fun b hb => Nat.lt_of_lt_of_le (hR1.lo b hb) hgr.size⟩ (hL1.ownR hB hR1 hbs hgr)
    have e : g' = b := by simpa [Value.ownBlock] using e
    subst e
    rcases hat with hat | hat
    · exact hR.far g' hb hat
    · have h1 := hR1.lo g' hb
      omega
theorem wpList_append_rec {ops : Array Oper} {rest : List Oper} {o : Oper} {a : Act} {Q : Exit → Act → World → Prop} (hu : Tryz.prog.underlying TS = some (.slice T)) (hi : (Tryz.prog.info? T).map (fun i => (i.zero, i.size, i.bytes)) = some (some (.agg (rcs rz)), 9, 56)) (hgd : o.guard = none) (s x : Operand)
    (ho : o.op = .call { callee := .builtin .append, args := #[s, x], argTypes := #[TS, TS] }) (hs : a.eval s = .slice ao n cap) (r : Rc) (hx : a.eval x = .slice (some ⟨w.heap.size, 0, none⟩) 1 1)
    (hR : Rcr T B w bs ao n cap l) (hL : Loc B0 w0 w L) (hB : B0 ≤ B) (hB2 : B ≤ w.heap.size) (hbs : ∀ e ∈ L, e.1 ∈ bs) (hn : n ≤ 1000000)
    (h : ∀ r' cap' w', Rcr T B w' bs (some ⟨r', 0, none⟩) (n + 1) cap' (l ++ [r]) → Loc B0 w0 w' L → wpList Tryz.prog ops Q rest (a.put o.dst (.slice (some ⟨r', 0, none⟩) (n + 1) cap')) w') :
    wpList Tryz.prog ops Q (o :: rest) a (w.alloc (.cells (rcs r) T)) :=
  wpList_plain hgd fun _ hK => app_rec hu hi s x ho hs r hx hR hL hB hB2 hbs hn fun r' cap' w' h1 h2 => hK _ _ (h r' cap' w' h1 h2)
theorem step_append_rec {ops : Array Oper} {o : Oper} {a : Act} {K : Act → World → Prop} {E : Prop} {Q : Exit → Act → World → Prop} (hu : Tryz.prog.underlying TS = some (.slice T)) (hi : (Tryz.prog.info? T).map (fun i => (i.zero, i.size, i.bytes)) = some (some (.agg (rcs rz)), 9, 56)) (hgd : o.guard = none) (s x : Operand)
    (ho : o.op = .call { callee := .builtin .append, args := #[s, x], argTypes := #[TS, TS] }) (hs : a.eval s = .slice ao n cap) (r : Rc) (hx : a.eval x = .slice (some ⟨w.heap.size, 0, none⟩) 1 1)
    (hR : Rcr T B w bs ao n cap l) (hL : Loc B0 w0 w L) (hB : B0 ≤ B) (hB2 : B ≤ w.heap.size) (hbs : ∀ e ∈ L, e.1 ∈ bs) (hn : n ≤ 1000000)
    (h : ∀ r' cap' w', Rcr T B w' bs (some ⟨r', 0, none⟩) (n + 1) cap' (l ++ [r]) → Loc B0 w0 w' L → K (a.put o.dst (.slice (some ⟨r', 0, none⟩) (n + 1) cap')) w') :
    if Region.wanted o (yielded ops a.tmps) = true then Oper.wp Tryz.prog o a (w.alloc (.cells (rcs r) T)) K Q else E := by
  have hw : Region.wanted o (yielded ops a.tmps) = true := by simp [Region.wanted, hgd]
  rw [if_pos hw]
  exact app_rec hu hi s x ho hs r hx hR hL hB hB2 hbs hn h
end

/-! The contents in block g, their row in blocks behind it. -/
def ccs (n : Nat) (x : Sg) (v : List Nat) (ao : Option Addr) (cap : Nat) : Array Value :=
  (.int .u64 (n : Int) :: ((rcs x.h).toList ++ (.slice ao x.l.length cap :: .int .u64 (x.c : Int) :: .int .u64 (x.o : Int) :: v.map fun i : Nat => Value.int .u8 (i : Int)))).toArray
structure CtC (w : World) (g n : Nat) (x : Sg) (v : List Nat) (ao : Option Addr) (cap : Nat) : Prop where
  blk : Cells w g 97 (ccs n x v ao cap)
  row : w.ownsRow (g + 1) 43 9 (.slice ao x.l.length cap) x.l.length (Rall x.l)
  okg : Okg n x
  inp : Inps x v
  few : x.l.length ≤ 1000000
def CtE (w : World) (g n : Nat) (x : Sg) : Prop := ∃ v ao cap, CtC w g n x v ao cap
theorem CtC.rcr {w : World} {g n : Nat} {x : Sg} {v : List Nat} {ao : Option Addr} {cap : Nat} (h : CtC w g n x v ao cap) : Rcr 43 (g + 1) w [g] ao x.l.length cap x.l :=
  ⟨h.row, rfl, fun b hb e => by rw [List.mem_singleton] at hb; subst hb; have := (h.row.lt b e).1; omega, fun b hb => by rw [List.mem_singleton] at hb; subst hb; exact h.blk.lt⟩
theorem CtC.to {w w' : World} {g n : Nat} {x : Sg} {v : List Nat} {ao : Option Addr} {cap : Nat} (h : CtC w g n x v ao cap) (hb : Below w.heap.size w w') : CtC w' g n x v ao cap :=
  ⟨h.blk.below hb h.blk.lt, h.row.kept (grown_of_below (r := none) hb) (by cases hv : (Value.slice ao x.l.length cap).ownBlock <;> simp), h.okg, h.inp, h.few⟩
section
variable (n : Nat) (x : Sg) (v : List Nat) (ao : Option Addr) (cap : Nat)
theorem ccs_size (hv : v.length = 12) : (ccs n x v ao cap).size = 25 := by simp [ccs, rcs, hv]
theorem ccs0 : (ccs n x v ao cap)[0]? = some (.int .u64 (n : Int)) := by simp [ccs, rcs]
theorem ccs1 : (ccs n x v ao cap)[1]? = some (.int .i64 x.h.k) := by simp [ccs, rcs]
theorem ccs9 : (ccs n x v ao cap)[9]? = some (.int .u8 (x.h.y : Int)) := by simp [ccs, rcs]
theorem ccs10 : (ccs n x v ao cap)[10]? = some (.slice ao x.l.length cap) := by simp [ccs, rcs]
theorem ccs11 : (ccs n x v ao cap)[11]? = some (.int .u64 (x.c : Int)) := by simp [ccs, rcs]
theorem ccs12 : (ccs n x v ao cap)[12]? = some (.int .u64 (x.o : Int)) := by simp [ccs, rcs]
theorem ccs_inp {i k : Nat} (h : v[i]? = some k) : (ccs n x v ao cap)[13 + i]? = some (.int .u8 (k : Int)) := by
  rw [Nat.add_comm]
  simp [ccs, rcs, h]
theorem ccs_head : (((ccs n x v ao cap).toList.drop 1).take 9).toArray = rcs x.h := by simp [ccs, rcs]
theorem ccs_setHead (h : Rc) (hv : v.length = 12) : ((ccs n x v ao cap).toList.take 1 ++ (rcs h).toList ++ (ccs n x v ao cap).toList.drop (1 + 9)).toArray = ccs n ⟨true, h, x.l, x.c, x.o⟩ v ao cap := by simp [ccs, rcs]
theorem ccs_setC (k : Nat) : ((ccs n x v ao cap).toList.take 11 ++ [Value.int .u64 (k : Int)] ++ (ccs n x v ao cap).toList.drop (11 + 1)).toArray = ccs n ⟨x.b, x.h, x.l, k, x.o⟩ v ao cap := by simp [ccs, rcs]
theorem ccs_setO (k : Nat) : ((ccs n x v ao cap).toList.take 12 ++ [Value.int .u64 (k : Int)] ++ (ccs n x v ao cap).toList.drop (12 + 1)).toArray = ccs n ⟨x.b, x.h, x.l, x.c, k⟩ v ao cap := by simp [ccs, rcs]
theorem ccs_setL (l : List Rc) (a : Option Addr) (c m : Nat) (hm : m = l.length) : ((ccs n x v ao cap).toList.take 10 ++ [Value.slice a m c] ++ (ccs n x v ao cap).toList.drop (10 + 1)).toArray = ccs n ⟨x.b, x.h, l, x.c, x.o⟩ v a c := by subst hm; simp [ccs, rcs]
theorem ccs_setI (i k : Nat) (hi : i < v.length) : ((ccs n x v ao cap).toList.take (13 + i) ++ [Value.int .u8 (k : Int)] ++ (ccs n x v ao cap).toList.drop (13 + i + 1)).toArray = ccs n x (v.set i k) ao cap := by
  have e : (ccs n x v ao cap).toList = (Value.int .u64 (n : Int) :: ((rcs x.h).toList ++ [.slice ao x.l.length cap, .int .u64 (x.c : Int), .int .u64 (x.o : Int)])) ++ v.map fun i : Nat => Value.int .u8 (i : Int) := by simp [ccs, rcs]
  have hl : (Value.int .u64 (n : Int) :: ((rcs x.h).toList ++ [.slice ao x.l.length cap, .int .u64 (x.c : Int), .int .u64 (x.o : Int)])).length = 13 := rfl
  have e2 : (ccs n x (v.set i k) ao cap) = ((Value.int .u64 (n : Int) :: ((rcs x.h).toList ++ [.slice ao x.l.length cap, .int .u64 (x.c : Int), .int .u64 (x.o : Int)])) ++ (v.set i k).map fun i : Nat => Value.int .u8 (i : Int)).toArray := by simp [ccs, rcs]
  rw [e, e2]
  generalize (Value.int .u64 (n : Int) :: ((rcs x.h).toList ++ [.slice ao x.l.length cap, .int .u64 (x.c : Int), .int .u64 (x.o : Int)])) = H at hl
  congr 1
  rw [List.take_append, List.take_of_length_le (by omega), List.drop_append, List.drop_of_length_le (by omega), hl, show 13 + i - 13 = i by omega, show 13 + i + 1 - 13 = i + 1 by omega, List.map_set, List.set_eq_take_append_cons_drop, if_pos (by simpa using hi)]
  simp
end
theorem ty_cont : TyA 97 25 := tya_struct Tryz.underlying97 (by kernel_rfl)
theorem ty_recs : TyO 31 := tyo_of Tryz.underlying31 rfl (by kernel_rfl)
theorem ld_recs (v : Value) : Instr.loadAt 31 v = ldT 31 v := rfl
theorem st_recs (p v : Value) : Instr.storeAt 31 p v = stT 31 p v := rfl
theorem st_cont (p v : Value) : Instr.storeAt 97 p v = stT 97 p v := rfl
theorem info_rec : (Tryz.prog.info? 43).map (fun i => (i.zero, i.size, i.bytes)) = some (some (.agg (rcs rz)), 9, 56) := by kernel_rfl
/-- A slice of one record, laid new. -/
theorem bs_of {T TS : TypeId} (hu : Tryz.prog.underlying TS = some (.slice T)) (hi : (Tryz.prog.info? T).map (fun i => (i.zero, i.size, i.bytes)) = some (some (.agg (rcs rz)), 9, 56)) (r : Rc) (w : World) :
    (Instr.buildSlice TS 1 #[(0, .agg (rcs r))]).run Tryz.prog w = .ok (.slice (some ⟨w.heap.size, 0, none⟩) 1 1) (w.alloc (.cells (rcs r) T)) := by
  obtain ⟨i0, hi0, hz0, hz1, hz2⟩ := info_parts hi
  have hf : Instr.fill (fun i => some (i * 9, 9)) ((Array.range (1 * 9)).map fun x => (rcs rz)[x % (rcs rz).size]!) [(0, Value.agg (rcs r))] = some (rcs r) := by
    have h0 : ((Array.range (1 * 9)).map fun x => (rcs rz)[x % (rcs rz).size]!) = rcs rz := by kernel_rfl
    rw [h0]
    simp [Instr.fill, rcs, Value.cells]
  simp [Instr.buildSlice, run_underlying hu, sizeOf, typeInfo, zeroValue, hi0, hz0, hz1, newRow, go_sem, Value.cells, Instr.fill] at hf ⊢
  rw [if_neg (by rw [rcs_size]; omega), hf.2]
  simp [go_sem]
/-- The same as a mark for the walk. -/
def bsM (TS : TypeId) (ps : Array (Nat × Value)) : Sem Value := Instr.buildSlice TS 1 ps
theorem bs_m (ps : Array (Nat × Value)) : Instr.buildSlice 31 1 ps = bsM 31 ps := rfl
theorem bs_rec (r : Rc) (w : World) : (bsM 31 #[(0, .agg (rcs r))]).run Tryz.prog w = .ok (.slice (some ⟨w.heap.size, 0, none⟩) 1 1) (w.alloc (.cells (rcs r) 43)) := bs_of Tryz.underlying31 info_rec r w
end Go.Proofs.YthnelnfefllhpaaGreatDoor
