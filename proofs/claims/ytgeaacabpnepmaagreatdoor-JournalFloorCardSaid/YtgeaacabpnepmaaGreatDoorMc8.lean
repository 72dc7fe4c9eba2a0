/- Texts of the walk. -/
import Derived.Test.YtgeaacabpnepmaaGreatDoorBb8
import Derived.Test.YtgeaacabpnepmaaGreatDoorKa8
import Derived.Test.YtgeaacabpnepmaaGreatDoorTk8
import Derived.Deep.AppendLies
import Derived.BigQuiet
import Derived.WalkSmall
import Derived.IntWalk
/- Rows of segments and of numbers: read where they lie; a row of one's own, and how it grows; a manifest's cells. Nothing of the program but the shapes of its types. -/
namespace Go.Proofs.YtgeaacabpnepmaaGreatDoor
open Go.RowKit
set_option linter.unusedVariables false
set_option linter.unusedSimpArgs false
set_option maxRecDepth 20000

theorem run_ldV {T : TypeId} {n : Nat} (ty : TyA T n) {w : World} {g o : Nat} (vs : List Value) (hn : vs.length = n) (h : ∀ j v, vs[j]? = some v → w.cell? ⟨g, o + j, none⟩ = some v) :
    (ldT T (.pointer (some ⟨g, o, none⟩))).run Tryz.prog w = .ok (.agg vs.toArray) w := by
  have hl := run_loadCells_list (P := Tryz.prog) w ⟨g, o, none⟩ vs (fun j v hv => by
    have hadd : (⟨g, o, none⟩ : Addr).add j = ⟨g, o + j, none⟩ := by unfold Addr.add; split <;> simp_all
    rw [hadd]; exact h j v hv)
  rw [hn] at hl
  obtain ⟨i, hi, hs⟩ := Option.map_eq_some_iff.1 ty.info
  simp [ldT, Instr.loadAt, Instr.sureAddr, loadVar, ty.agg w, sizeOf, typeInfo, hi, hs, hl]
theorem ty_man : TyA 60 4 := tya_struct Tryz.underlying60 (by kernel_rfl)
theorem ty_part : TyA 122 2 := tya_struct Tryz.underlying122 (by kernel_rfl)
theorem ty_parts : TyO 58 := tyo_of Tryz.underlying58 rfl (by kernel_rfl)
theorem ty_nums : TyO 41 := tyo_of Tryz.underlying41 rfl (by kernel_rfl)
theorem ld_man (v : Value) : Instr.loadAt 60 v = ldT 60 v := rfl
theorem ld_part (v : Value) : Instr.loadAt 122 v = ldT 122 v := rfl
theorem ld_parts (v : Value) : Instr.loadAt 58 v = ldT 58 v := rfl
theorem ld_nums (v : Value) : Instr.loadAt 41 v = ldT 41 v := rfl
theorem st_man (p v : Value) : Instr.storeAt 60 p v = stT 60 p v := rfl
theorem st_part (p v : Value) : Instr.storeAt 122 p v = stT 122 p v := rfl
theorem st_parts (p v : Value) : Instr.storeAt 58 p v = stT 58 p v := rfl
theorem st_nums (p v : Value) : Instr.storeAt 41 p v = stT 41 p v := rfl
theorem info_part : (Tryz.prog.info? 122).map (fun i => (i.zero, i.size, i.bytes)) = some (some (.agg #[.int .u64 0, .int .u64 0]), 2, 16) := by kernel_rfl
theorem info_num : (Tryz.prog.info? 37).map (fun i => (i.zero, i.size, i.bytes)) = some (some (.int .u64 0), 1, 8) := by kernel_rfl

def gpv (p : Nat × Nat) : List Value := [.int .u64 (p.1 : Int), .int .u64 (p.2 : Int)]
def gnv (c : Nat) : List Value := [.int .u64 (c : Int)]
def Gpl (l : List (Nat × Nat)) : List Value := (l.map gpv).flatten
def Gnl (l : List Nat) : List Value := (l.map gnv).flatten
theorem Gpl_len (l : List (Nat × Nat)) : (Gpl l).length = l.length * 2 := by
  induction l with
  | nil => rfl
  | cons p l ih =>
    have e : Gpl (p :: l) = gpv p ++ Gpl l := rfl
    rw [e, List.length_append, ih, List.length_cons]
    simp [gpv]; omega
theorem Gpl_snoc (l : List (Nat × Nat)) (p : Nat × Nat) : Gpl (l ++ [p]) = Gpl l ++ gpv p := by simp [Gpl]
theorem Gpl_one (l : List (Nat × Nat)) : ∀ u ∈ Gpl l, u.oneCell' = true := by
  intro u hu
  obtain ⟨x, hx, hu⟩ := List.mem_flatten.1 hu
  obtain ⟨p, _, rfl⟩ := List.mem_map.1 hx
  simp [gpv] at hu
  rcases hu with rfl | rfl <;> rfl
theorem Gpl_at : ∀ (l : List (Nat × Nat)) (j i : Nat) (hj : j < l.length) (v : Value), (gpv (l[j]'hj))[i]? = some v → (Gpl l)[j * 2 + i]? = some v
  | a :: r, 0, i, _, v, h => by
    have hi : i < 2 := by obtain ⟨hi, _⟩ := List.getElem?_eq_some_iff.1 h; simpa [gpv] using hi
    have e : Gpl (a :: r) = gpv a ++ Gpl r := rfl
    rw [e, List.getElem?_append_left (by simp [gpv]; omega), Nat.zero_mul, Nat.zero_add]
    exact h
  | a :: r, j + 1, i, hj, v, h => by
    have ih := Gpl_at r j i (by simpa using hj) v h
    have e : Gpl (a :: r) = gpv a ++ Gpl r := rfl
    have hl : (gpv a).length = 2 := rfl
    rw [e, List.getElem?_append_right (by rw [hl]; omega), hl, show (j + 1) * 2 + i - 2 = j * 2 + i by omega]
    exact ih
def PsAt (w : World) (ao : Option Addr) (l : List (Nat × Nat)) : Prop := ∀ k (hk : k < l.length), ∃ b o, ao = some ⟨b, o, none⟩ ∧ ∀ i v, (gpv (l[k]'hk))[i]? = some v → w.cell? ⟨b, o + k * 2 + i, none⟩ = some v
theorem PsAt.nil (w : World) (ao : Option Addr) : PsAt w ao [] := fun k hk => by cases hk
theorem PsAt.lt {w : World} {ao : Option Addr} {l : List (Nat × Nat)} (h : PsAt w ao l) (h0 : l ≠ []) : ∀ a, ao = some a → a.block < w.heap.size := fun a e => by
  obtain ⟨b, o, e2, hc⟩ := h 0 (List.length_pos_iff.2 h0)
  rw [e] at e2
  cases e2
  exact World.block_lt_of_cell? w _ (hc 0 _ rfl)
theorem PsAt.tu {w w' : World} {ao : Option Addr} {l : List (Nat × Nat)} {B : Nat} (h : PsAt w ao l) (hb : Below B w w') (hB : l ≠ [] → ∀ a, ao = some a → a.block < B) : PsAt w' ao l := fun k hk => by
  obtain ⟨b, o, e, hc⟩ := h k hk
  refine ⟨b, o, e, fun i v hv => ?_⟩
  rw [World.cell?_of_block (w := w) (hb.block b (hB (by intro e; subst e; cases hk) _ e))]
  exact hc i v hv
theorem PsAt.to {w w' : World} {ao : Option Addr} {l : List (Nat × Nat)} (h : PsAt w ao l) (hb : Below w.heap.size w w') : PsAt w' ao l := h.tu hb (fun h0 => h.lt h0)
theorem Gnl_len (l : List (Nat)) : (Gnl l).length = l.length * 1 := by
  induction l with
  | nil => rfl
  | cons p l ih =>
    have e : Gnl (p :: l) = gnv p ++ Gnl l := rfl
    rw [e, List.length_append, ih, List.length_cons]
    simp [gnv]; omega
theorem Gnl_snoc (l : List (Nat)) (p : Nat) : Gnl (l ++ [p]) = Gnl l ++ gnv p := by simp [Gnl]
theorem Gnl_one (l : List (Nat)) : ∀ u ∈ Gnl l, u.oneCell' = true := by
  intro u hu
  obtain ⟨x, hx, hu⟩ := List.mem_flatten.1 hu
  obtain ⟨p, _, rfl⟩ := List.mem_map.1 hx
  simp [gnv] at hu
  subst hu; rfl
theorem Gnl_at : ∀ (l : List (Nat)) (j i : Nat) (hj : j < l.length) (v : Value), (gnv (l[j]'hj))[i]? = some v → (Gnl l)[j * 1 + i]? = some v
  | a :: r, 0, i, _, v, h => by
    have hi : i < 1 := by obtain ⟨hi, _⟩ := List.getElem?_eq_some_iff.1 h; simpa [gnv] using hi
    have e : Gnl (a :: r) = gnv a ++ Gnl r := rfl
    rw [e, List.getElem?_append_left (by simp [gnv]; omega), Nat.zero_mul, Nat.zero_add]
    exact h
  | a :: r, j + 1, i, hj, v, h => by
    have ih := Gnl_at r j i (by simpa using hj) v h
    have e : Gnl (a :: r) = gnv a ++ Gnl r := rfl
    have hl : (gnv a).length = 1 := rfl
    rw [e, List.getElem?_append_right (by rw [hl]; omega), hl, show (j + 1) * 1 + i - 1 = j * 1 + i by omega]
    exact ih
def NsAt (w : World) (ao : Option Addr) (l : List (Nat)) : Prop := ∀ k (hk : k < l.length), ∃ b o, ao = some ⟨b, o, none⟩ ∧ ∀ i v, (gnv (l[k]'hk))[i]? = some v → w.cell? ⟨b, o + k * 1 + i, none⟩ = some v
theorem NsAt.nil (w : World) (ao : Option Addr) : NsAt w ao [] := fun k hk => by cases hk
theorem NsAt.lt {w : World} {ao : Option Addr} {l : List (Nat)} (h : NsAt w ao l) (h0 : l ≠ []) : ∀ a, ao = some a → a.block < w.heap.size := fun a e => by
  obtain ⟨b, o, e2, hc⟩ := h 0 (List.length_pos_iff.2 h0)
  rw [e] at e2
  cases e2
  exact World.block_lt_of_cell? w _ (hc 0 _ rfl)
theorem NsAt.tu {w w' : World} {ao : Option Addr} {l : List (Nat)} {B : Nat} (h : NsAt w ao l) (hb : Below B w w') (hB : l ≠ [] → ∀ a, ao = some a → a.block < B) : NsAt w' ao l := fun k hk => by
  obtain ⟨b, o, e, hc⟩ := h k hk
  refine ⟨b, o, e, fun i v hv => ?_⟩
  rw [World.cell?_of_block (w := w) (hb.block b (hB (by intro e; subst e; cases hk) _ e))]
  exact hc i v hv
theorem NsAt.to {w w' : World} {ao : Option Addr} {l : List (Nat)} (h : NsAt w ao l) (hb : Below w.heap.size w w') : NsAt w' ao l := h.tu hb (fun h0 => h.lt h0)

theorem PsAt.one {w : World} {ao : Option Addr} {l : List (Nat × Nat)} (h : PsAt w ao l) {k : Nat} (hk : k < l.length) : ∃ b o, ao = some ⟨b, o, none⟩ ∧
    ∀ W, Below w.heap.size w W → (∀ T, TyA T 2 → (ldT T (.pointer (some ⟨b, o + k * 2, none⟩))).run Tryz.prog W = .ok (.agg #[.int .u64 ((l[k]'hk).1 : Int), .int .u64 ((l[k]'hk).2 : Int)]) W) ∧
      (ldT 37 (.pointer (some ⟨b, o + k * 2, none⟩))).run Tryz.prog W = .ok (.int .u64 ((l[k]'hk).1 : Int)) W ∧ (ldT 37 (.pointer (some ⟨b, o + k * 2 + 1, none⟩))).run Tryz.prog W = .ok (.int .u64 ((l[k]'hk).2 : Int)) W := by
  obtain ⟨b, o, e, _⟩ := h k hk
  refine ⟨b, o, e, fun W hW => ?_⟩
  obtain ⟨b', o', e', hc⟩ := h.to hW k hk
  rw [e] at e'
  cases e'
  exact ⟨fun T ty => run_ldV ty (gpv (l[k]'hk)) rfl hc, run_ldC ty_u64 (hc 0 _ rfl), run_ldC ty_u64 (hc 1 _ rfl)⟩
theorem NsAt.one {w : World} {ao : Option Addr} {l : List Nat} (h : NsAt w ao l) {k : Nat} (hk : k < l.length) : ∃ b o, ao = some ⟨b, o, none⟩ ∧
    ∀ W, Below w.heap.size w W → (ldT 37 (.pointer (some ⟨b, o + k, none⟩))).run Tryz.prog W = .ok (.int .u64 ((l[k]'hk : Nat) : Int)) W := by
  obtain ⟨b, o, e, _⟩ := h k hk
  refine ⟨b, o, e, fun W hW => ?_⟩
  obtain ⟨b', o', e', hc⟩ := h.to hW k hk
  rw [e] at e'
  cases e'
  have h1 := hc 0 _ rfl
  rw [Nat.mul_one, Nat.add_zero] at h1
  exact run_ldC ty_u64 h1

structure Grw (T : TypeId) (k B : Nat) (w : World) (bs : List Nat) (ao : Option Addr) (n cap : Nat) (xs : List Value) : Prop where
  own : w.ownsRow B T k (.slice ao n cap) n xs
  far : ∀ b ∈ bs, (Value.slice ao n cap).ownBlock ≠ some b
  lo : ∀ b ∈ bs, b < w.heap.size
section
variable {T TS : TypeId} {k B B0 : Nat} {w0 w w' : World} {L L' : List (Nat × TypeId × Array Value)} {bs : List Nat} {ao : Option Addr} {n cap : Nat} {xs : List Value}
theorem Grw.none (T : TypeId) (k B : Nat) (w : World) (bs : List Nat) (hl : ∀ b ∈ bs, b < w.heap.size) : Grw T k B w bs none 0 0 [] := ⟨World.ownsRow_nil _ _ _ _, (fun b _ h => (by cases h)), hl⟩
theorem Grw.to (h : Grw T k B w bs ao n cap xs) (hb : Below w.heap.size w w') : Grw T k B w' bs ao n cap xs :=
  ⟨h.own.kept (grown_of_below (r := Option.none) hb) (by cases hv : (Value.slice ao n cap).ownBlock <;> simp), h.far, fun b hbb => Nat.lt_of_lt_of_le (h.lo b hbb) hb.size⟩
theorem Grw.turn (h : Grw T k B w bs ao n cap xs) {g : Nat} (hg : g ∈ bs) (hb : w.grownBy w' (some g)) : Grw T k B w' bs ao n cap xs :=
  ⟨h.own.kept hb (.inr (h.far g hg)), h.far, fun b hbb => Nat.lt_of_lt_of_le (h.lo b hbb) hb.size⟩
theorem Grw.keep (h : Grw T k B w bs ao n cap xs) {row : Option Nat} (hb : w.grownBy w' row) (hne : (Value.slice ao n cap).ownBlock = Option.none ∨ (Value.slice ao n cap).ownBlock ≠ row) : Grw T k B w' bs ao n cap xs :=
  ⟨h.own.kept hb hne, h.far, fun b hbb => Nat.lt_of_lt_of_le (h.lo b hbb) hb.size⟩
theorem Loc.ownG (h : Loc B0 w0 w L) (hB : B0 ≤ B) (hr : Grw T k B w bs ao n cap xs) (hbs : ∀ e ∈ L, e.1 ∈ bs) (hb : w.grownBy w' (Value.slice ao n cap).ownBlock) : Loc B0 w0 w' L := by
  cases hv : (Value.slice ao n cap).ownBlock with
  | none => rw [hv] at hb; exact h.grown hb
  | some r =>
    rw [hv] at hb
    exact h.row hb (Nat.le_trans hB (hr.own.lt r hv).1) (fun e he q => hr.far e.1 (hbs e he) (by rw [hv, q]))
theorem Grw.unlike {T2 : TypeId} {k2 B2 : Nat} {bs2 : List Nat} {ao2 : Option Addr} {n2 cap2 : Nat} {xs2 : List Value} (h : Grw T k B w bs ao n cap xs) (h2 : Grw T2 k2 B2 w bs2 ao2 n2 cap2 xs2) (hT : T ≠ T2) : (Value.slice ao n cap).ownBlock = Option.none ∨ (Value.slice ao n cap).ownBlock ≠ (Value.slice ao2 n2 cap2).ownBlock := by
  rcases h.own.2 with ⟨hv, _⟩ | ⟨g, c, cur, hv, _, h6, _⟩
  · left; rw [hv]; rfl
  · right
    rcases h2.own.2 with ⟨hv2, _⟩ | ⟨g2, c2, cur2, hv2, _, h62, _⟩
    · rw [hv, hv2]; intro e; cases e
    · rw [hv, hv2]
      intro e
      have e : g = g2 := by simpa [Value.ownBlock] using e
      subst e
      rw [h6] at h62
      simp at h62
      exact hT h62.2
theorem app_part {o : Oper} {a : Act} {K : Act → World → Prop} {Q : Exit → Act → World → Prop} (hu : Tryz.prog.underlying TS = some (.slice T)) (hi : (Tryz.prog.info? T).map (fun i => (i.zero, i.size, i.bytes)) = some (some (.agg #[.int .u64 0, .int .u64 0]), 2, 16)) (s x : Operand)
    (ho : o.op = .call { callee := .builtin .append, args := #[s, x], argTypes := #[TS, TS] }) (hs : a.eval s = .slice ao n cap) (p : Nat × Nat) (hx : a.eval x = .slice (some ⟨w.heap.size, 0, none⟩) 1 1)
    (hR : Grw T 2 B w bs ao n cap xs) (hL : Loc B0 w0 w L) (hB : B0 ≤ B) (hB2 : B ≤ w.heap.size) (hbs : ∀ e ∈ L, e.1 ∈ bs) (hn : n ≤ 1000000)
    (h : ∀ r' cap' w', Grw T 2 B w' bs (some ⟨r', 0, none⟩) (n + 1) cap' (xs ++ gpv p) → Loc B0 w0 w' L → (w.alloc (.cells (gpv p).toArray T)).grownBy w' (Value.slice ao n cap).ownBlock → K (a.put o.dst (.slice (some ⟨r', 0, none⟩) (n + 1) cap')) w') :
    Oper.wp Tryz.prog o a (w.alloc (.cells (gpv p).toArray T)) K Q := by
  obtain ⟨i0, hi0, hz0, hz1, hz2⟩ := info_parts hi
  have hal : w.grownBy (w.alloc (.cells (gpv p).toArray T)) Option.none := grown_alloc _ _
  have hR1 : Grw T 2 B (w.alloc (.cells (gpv p).toArray T)) bs ao n cap xs := hR.to (below_of_grown hal)
  have hL1 : Loc B0 w0 (w.alloc (.cells (gpv p).toArray T)) L := hL.grown hal
  have hc : Cells (w.alloc (.cells (gpv p).toArray T)) w.heap.size T (gpv p).toArray := Cells.made w _ _
  refine wp_append_lies (w.alloc (.cells (gpv p).toArray T)) s x TS ho B T i0 (.agg #[.int .u64 0, .int .u64 0]) 2 16 hu hi0 hz0 hz1 hz2 rfl (by decide) (.slice ao n cap) n xs hs hR1.own ⟨w.heap.size, 0, none⟩ 1 1 (gpv p) hx rfl (fun j u hu => ?_) (by intro u hu; simp [gpv] at hu; rcases hu with rfl | rfl <;> rfl) (by decide) (by simp only [maxLen]; omega) (by omega) (by have := hal.size; omega) _ rfl ?_
  · have hadd : (⟨w.heap.size, 0, none⟩ : Addr).add j = ⟨w.heap.size, j, none⟩ := by unfold Addr.add; split <;> simp_all
    rw [hadd, hc.cell]; simpa using hu
  · intro g' cap' w1 hown1 hgr hat hlt1
    refine h g' cap' w1 ⟨hown1, fun b hb e => ?_, fun b hb => Nat.lt_of_lt_of_le (hR1.lo b hb) hgr.size⟩ (hL1.ownG hB hR1 hbs hgr) hgr
    have e : g' = b := by simpa [Value.ownBlock] using e
    subst e
    rcases hat with hat | hat
    · exact hR.far g' hb hat
    · have h1 := hR1.lo g' hb
      omega
theorem step_append_part {ops : Array Oper} {o : Oper} {a : Act} {K : Act → World → Prop} {E : Prop} {Q : Exit → Act → World → Prop} (hu : Tryz.prog.underlying TS = some (.slice T)) (hi : (Tryz.prog.info? T).map (fun i => (i.zero, i.size, i.bytes)) = some (some (.agg #[.int .u64 0, .int .u64 0]), 2, 16)) (hgd : o.guard = Option.none) (s x : Operand)
    (ho : o.op = .call { callee := .builtin .append, args := #[s, x], argTypes := #[TS, TS] }) (hs : a.eval s = .slice ao n cap) (p : Nat × Nat) (hx : a.eval x = .slice (some ⟨w.heap.size, 0, none⟩) 1 1)
    (hR : Grw T 2 B w bs ao n cap xs) (hL : Loc B0 w0 w L) (hB : B0 ≤ B) (hB2 : B ≤ w.heap.size) (hbs : ∀ e ∈ L, e.1 ∈ bs) (hn : n ≤ 1000000)
    (h : ∀ r' cap' w', Grw T 2 B w' bs (some ⟨r', 0, none⟩) (n + 1) cap' (xs ++ gpv p) → Loc B0 w0 w' L → (w.alloc (.cells (gpv p).toArray T)).grownBy w' (Value.slice ao n cap).ownBlock → K (a.put o.dst (.slice (some ⟨r', 0, none⟩) (n + 1) cap')) w') :
    if Region.wanted o (yielded ops a.tmps) = true then Oper.wp Tryz.prog o a (w.alloc (.cells (gpv p).toArray T)) K Q else E := by
  have hw : Region.wanted o (yielded ops a.tmps) = true := by simp [Region.wanted, hgd]
  rw [if_pos hw]
  exact app_part hu hi s x ho hs p hx hR hL hB hB2 hbs hn h
theorem app_num {o : Oper} {a : Act} {K : Act → World → Prop} {Q : Exit → Act → World → Prop} (hu : Tryz.prog.underlying TS = some (.slice T)) (hi : (Tryz.prog.info? T).map (fun i => (i.zero, i.size, i.bytes)) = some (some (.int .u64 0), 1, 8)) (s x : Operand)
    (ho : o.op = .call { callee := .builtin .append, args := #[s, x], argTypes := #[TS, TS] }) (hs : a.eval s = .slice ao n cap) (c : Nat) (hx : a.eval x = .slice (some ⟨w.heap.size, 0, none⟩) 1 1)
    (hR : Grw T 1 B w bs ao n cap xs) (hL : Loc B0 w0 w L) (hB : B0 ≤ B) (hB2 : B ≤ w.heap.size) (hbs : ∀ e ∈ L, e.1 ∈ bs) (hn : n ≤ 1000000)
    (h : ∀ r' cap' w', Grw T 1 B w' bs (some ⟨r', 0, none⟩) (n + 1) cap' (xs ++ gnv c) → Loc B0 w0 w' L → (w.alloc (.cells (gnv c).toArray T)).grownBy w' (Value.slice ao n cap).ownBlock → K (a.put o.dst (.slice (some ⟨r', 0, none⟩) (n + 1) cap')) w') :
    Oper.wp Tryz.prog o a (w.alloc (.cells (gnv c).toArray T)) K Q := by
  obtain ⟨i0, hi0, hz0, hz1, hz2⟩ := info_parts hi
  have hal : w.grownBy (w.alloc (.cells (gnv c).toArray T)) Option.none := grown_alloc _ _
  have hR1 : Grw T 1 B (w.alloc (.cells (gnv c).toArray T)) bs ao n cap xs := hR.to (below_of_grown hal)
  have hL1 : Loc B0 w0 (w.alloc (.cells (gnv c).toArray T)) L := hL.grown hal
  have hc : Cells (w.alloc (.cells (gnv c).toArray T)) w.heap.size T (gnv c).toArray := Cells.made w _ _
  refine wp_append_lies (w.alloc (.cells (gnv c).toArray T)) s x TS ho B T i0 (.int .u64 0) 1 8 hu hi0 hz0 hz1 hz2 rfl (by decide) (.slice ao n cap) n xs hs hR1.own ⟨w.heap.size, 0, none⟩ 1 1 (gnv c) hx rfl (fun j u hu => ?_) (by intro u hu; simp [gnv] at hu; subst hu; rfl) (by decide) (by simp only [maxLen]; omega) (by omega) (by have := hal.size; omega) _ rfl ?_
  · have hadd : (⟨w.heap.size, 0, none⟩ : Addr).add j = ⟨w.heap.size, j, none⟩ := by unfold Addr.add; split <;> simp_all
    rw [hadd, hc.cell]; simpa using hu
  · intro g' cap' w1 hown1 hgr hat hlt1
    refine h g' cap' w1 ⟨hown1, fun b hb e => ?_, fun b hb => Nat.lt_of_lt_of_le (hR1.lo b hb) hgr.size⟩ (hL1.ownG hB hR1 hbs hgr) hgr
    have e : g' = b := by simpa [Value.ownBlock] using e
    subst e
    rcases hat with hat | hat
    · exact hR.far g' hb hat
    · have h1 := hR1.lo g' hb
      omega
theorem step_append_num {ops : Array Oper} {o : Oper} {a : Act} {K : Act → World → Prop} {E : Prop} {Q : Exit → Act → World → Prop} (hu : Tryz.prog.underlying TS = some (.slice T)) (hi : (Tryz.prog.info? T).map (fun i => (i.zero, i.size, i.bytes)) = some (some (.int .u64 0), 1, 8)) (hgd : o.guard = Option.none) (s x : Operand)
    (ho : o.op = .call { callee := .builtin .append, args := #[s, x], argTypes := #[TS, TS] }) (hs : a.eval s = .slice ao n cap) (c : Nat) (hx : a.eval x = .slice (some ⟨w.heap.size, 0, none⟩) 1 1)
    (hR : Grw T 1 B w bs ao n cap xs) (hL : Loc B0 w0 w L) (hB : B0 ≤ B) (hB2 : B ≤ w.heap.size) (hbs : ∀ e ∈ L, e.1 ∈ bs) (hn : n ≤ 1000000)
    (h : ∀ r' cap' w', Grw T 1 B w' bs (some ⟨r', 0, none⟩) (n + 1) cap' (xs ++ gnv c) → Loc B0 w0 w' L → (w.alloc (.cells (gnv c).toArray T)).grownBy w' (Value.slice ao n cap).ownBlock → K (a.put o.dst (.slice (some ⟨r', 0, none⟩) (n + 1) cap')) w') :
    if Region.wanted o (yielded ops a.tmps) = true then Oper.wp Tryz.prog o a (w.alloc (.cells (gnv c).toArray T)) K Q else E := by
  have hw : Region.wanted o (yielded ops a.tmps) = true := by simp [Region.wanted, hgd]
  rw [if_pos hw]
  exact app_num hu hi s x ho hs c hx hR hL hB hB2 hbs hn h
theorem told_part {l : List (Nat × Nat)} (h : Grw T 2 B w bs ao n cap (Gpl l)) (hn : l.length = n) : PsAt w ao l ∧ (∀ a, ao = some a → B ≤ a.block ∧ a.block < w.heap.size) ∧ n ≤ cap ∧ cap ≤ maxLen ∧ (ao = Option.none → cap = 0) := by
  subst hn
  have hc := fun g (e : (Value.slice ao l.length cap).ownBlock = some g) => World.ownsRow.cells (g := g) h.own e
  have hlt := fun g (e : (Value.slice ao l.length cap).ownBlock = some g) => h.own.lt g e
  rcases h.own.2 with ⟨hv, h0⟩ | ⟨b, cap2, cur, hv, _, _, hcap, hmax, _⟩
  · obtain rfl : l = [] := List.eq_nil_of_length_eq_zero h0
    injection hv with e1 e2 e3
    subst e1 e3
    exact ⟨(fun j hj => (by cases hj)), (fun a e => (by cases e)), Nat.le_refl _, Nat.zero_le _, fun _ => rfl⟩
  · injection hv with e1 e2 e3
    subst e1 e3
    refine ⟨fun j hj => ⟨b, 0, rfl, fun i v hv => ?_⟩, (fun a e => (by cases e; exact hlt b rfl)), hcap, hmax, (fun e => (by cases e))⟩
    have := hc b rfl (j * 2 + i) v (Gpl_at l j i hj v hv)
    rw [show (⟨b, 0 + j * 2 + i, none⟩ : Addr) = (⟨b, 0, none⟩ : Addr).add (j * 2 + i) from by simp [Addr.add, Nat.add_assoc]]
    exact this
theorem told_num {l : List (Nat)} (h : Grw T 1 B w bs ao n cap (Gnl l)) (hn : l.length = n) : NsAt w ao l ∧ (∀ a, ao = some a → B ≤ a.block ∧ a.block < w.heap.size) ∧ n ≤ cap ∧ cap ≤ maxLen ∧ (ao = Option.none → cap = 0) := by
  subst hn
  have hc := fun g (e : (Value.slice ao l.length cap).ownBlock = some g) => World.ownsRow.cells (g := g) h.own e
  have hlt := fun g (e : (Value.slice ao l.length cap).ownBlock = some g) => h.own.lt g e
  rcases h.own.2 with ⟨hv, h0⟩ | ⟨b, cap2, cur, hv, _, _, hcap, hmax, _⟩
  · obtain rfl : l = [] := List.eq_nil_of_length_eq_zero h0
    injection hv with e1 e2 e3
    subst e1 e3
    exact ⟨(fun j hj => (by cases hj)), (fun a e => (by cases e)), Nat.le_refl _, Nat.zero_le _, fun _ => rfl⟩
  · injection hv with e1 e2 e3
    subst e1 e3
    refine ⟨fun j hj => ⟨b, 0, rfl, fun i v hv => ?_⟩, (fun a e => (by cases e; exact hlt b rfl)), hcap, hmax, (fun e => (by cases e))⟩
    have := hc b rfl (j * 1 + i) v (Gnl_at l j i hj v hv)
    rw [show (⟨b, 0 + j * 1 + i, none⟩ : Addr) = (⟨b, 0, none⟩ : Addr).add (j * 1 + i) from by simp [Addr.add, Nat.add_assoc]]
    exact this
end

def mcs (m : Mf) (so : Option Addr) (sc : Nat) (co : Option Addr) (cc : Nat) : Array Value := #[.int .u64 (m.ep : Int), .int .u8 (m.pl : Int), .slice so m.sg.length sc, .slice co m.ck.length cc]
theorem mcs_one (m : Mf) (so : Option Addr) (sc : Nat) (co : Option Addr) (cc : Nat) : (mcs m so sc co cc).toList.all Value.oneCell' = true := rfl
structure MfAt (w : World) (m : Mf) (so co : Option Addr) : Prop where
  fit : m.fit
  ps : PsAt w so m.sg
  ns : NsAt w co m.ck
  l1 : m.sg.length ≤ maxLen
  l2 : m.ck.length ≤ maxLen
theorem MfAt.to {w w' : World} {m : Mf} {so co : Option Addr} (h : MfAt w m so co) (hb : Below w.heap.size w w') : MfAt w' m so co := ⟨h.fit, h.ps.to hb, h.ns.to hb, h.l1, h.l2⟩
theorem mz_at (w : World) : MfAt w mz none none := ⟨mz_fit, PsAt.nil _ _, NsAt.nil _ _, by decide, by decide⟩
theorem str_yes2' (p : List UInt8) : ((str p).toList == (str p).toList) = true := beq_self_eq_true _
theorem str_no2' {a b : List UInt8} (h : a ≠ b) : ((str a).toList == (str b).toList) = false := by rw [str_toList, str_toList]; simpa using h
theorem ps_off {w w' : World} {so : Option Addr} {l : List (Nat × Nat)} {g : Nat} (h : PsAt w so l) (q : w.grownBy w' (some g)) (hn : l ≠ [] → ∀ a, so = some a → a.block ≠ g) : PsAt w' so l := fun k hk => by
  obtain ⟨b, o, e, hc⟩ := h k hk
  refine ⟨b, o, e, fun i v hv => ?_⟩
  have h1 := hc i v hv
  rw [World.cell?_of_block (w := w) (q.block b (World.block_lt_of_cell? w _ h1) (fun q => hn (by intro e; subst e; cases hk) _ e (Option.some.inj q)))]
  exact h1
theorem ns_off {w w' : World} {so : Option Addr} {l : List Nat} {g : Nat} (h : NsAt w so l) (q : w.grownBy w' (some g)) (hn : l ≠ [] → ∀ a, so = some a → a.block ≠ g) : NsAt w' so l := fun k hk => by
  obtain ⟨b, o, e, hc⟩ := h k hk
  refine ⟨b, o, e, fun i v hv => ?_⟩
  have h1 := hc i v hv
  rw [World.cell?_of_block (w := w) (q.block b (World.block_lt_of_cell? w _ h1) (fun q => hn (by intro e; subst e; cases hk) _ e (Option.some.inj q)))]
  exact h1
end Go.Proofs.YtgeaacabpnepmaaGreatDoor
/- May a manifest be, by the program: one contract each. -/
namespace Go.Proofs.YtgeaacabpnepmaaGreatDoor
open Go.RowKit
set_option linter.unusedVariables false
set_option linter.unusedSimpArgs false
set_option maxRecDepth 20000
attribute [local go_sem ↓] ld_part ld_u64 st_part
set_option maxHeartbeats 1000000 in
theorem segs_c (l : List (Nat × Nat)) (ao : Option Addr) (cap : Nat) (w : World) (h : PsAt w ao l) (hf : sgFit l) (hl : l.length ≤ maxLen) :
    Calls Tryz.prog 117 #[.slice ao l.length cap] w fun R w' => R = .returned (.bool (segsB l)) ∧ Below w.heap.size w w' := by
  have HA := Lib.hid h
  have HF := Lib.hid hf
  clear h hf
  simp only [maxLen] at hl
  by_cases h0 : l.length = 0
  · have hz : segsB l = false := by unfold segsB; simp [h0]
    rw [hz]
    have hq : ((l.length : Int) == 0) = true := by rw [h0]; rfl
    clear h0
    go_enter Tryz.func117, Tryz.ntmps117
    go_wp2_with fail
    go_ret
    exact ⟨rfl, Below.refl _ _⟩
  · have hq : ((l.length : Int) == 0) = false := beq_eq_false_iff_ne.2 (by omega)
    by_cases h1 : 12 < l.length
    · have hz : segsB l = false := by unfold segsB; simp; intro _ h2; omega
      rw [hz]
      have h2 : (12 : Int) < (l.length : Int) := by omega
      go_enter Tryz.func117, Tryz.ntmps117
      go_wp2_with fail
      go_ret
      exact ⟨rfl, Below.refl _ _⟩
    · have hz : segsB l = sgOk 0 0 l := by unfold segsB; rw [decide_eq_true (by omega), decide_eq_true (by omega)]; rfl
      rw [hz]
      have h2 : ¬ (12 : Int) < (l.length : Int) := by omega
      obtain ⟨z, hzz⟩ : ∃ z, z = sgOk 0 0 l := ⟨_, rfl⟩
      rw [← hzz]
      have HZ := Lib.hid hzz
      have HS := Lib.hid (show 0 < l.length ∧ l.length ≤ 12 by omega)
      clear hz hzz h0 h1 hl
      have H0 := Loc.nil (B := w.heap.size) (w := w) (Nat.le_refl _)
      obtain ⟨g, w1, z1, s1, H1, _⟩ := H0.newA ty_part #[.int .u64 0, .int .u64 0] #[.int .u64 0, .int .u64 0] rfl rfl rfl
      go_enter Tryz.func117, Tryz.ntmps117
      go_wp2
      clear s1 hq h2 z1 H0
      go_loopw [17] (fun i wr => ∃ k a b : Nat, k ≤ l.length ∧ a < 18446744073709551616 ∧ b < 18446744073709551616 ∧ i = .int .i64 (k : Int) ∧ Hid (z = sgOk a b (l.drop k)) ∧ Hid (Loc w.heap.size w wr [(g, 122, #[.int .u64 (a : Int), .int .u64 (b : Int)])])) (fun i _ => l.length - (intOf i).toNat)
      case atStart => exact ⟨0, 0, 0, Nat.zero_le _, by decide, by decide, rfl, HZ.out, H1⟩
      case round =>
        obtain ⟨k, a, b, hk, ha, hb, rfl, HZK, HL⟩ := hrel
        clear H1 HZ
        have hs := HS.out.2
        by_cases hlt : k < l.length
        · obtain ⟨bb, oo, rfl, hone⟩ := HA.out.one hlt
          have hpf := HF.out _ (List.getElem_mem hlt)
          have HDK := Lib.hid (List.drop_eq_getElem_cons hlt)
          have hld := (hone wr HL.out.be).1 _ ty_part
          obtain ⟨⟨p1, p2⟩, hp⟩ : ∃ p, p = l[k]'hlt := ⟨_, rfl⟩
          rw [← hp] at hpf hld HDK
          dsimp only at hpf hld
          obtain ⟨hp1, hp2⟩ := hpf
          clear hone hp
          obtain ⟨g5, w5, z5, s5, H5, _⟩ := HL.out.newA ty_part #[.int .u64 0, .int .u64 0] #[.int .u64 (p1 : Int), .int .u64 (p2 : Int)] rfl rfl rfl
          replace H5 : Loc _ _ _ [(g, 122, #[.int .u64 (a : Int), .int .u64 (b : Int)]), (g5, 122, #[.int .u64 (p1 : Int), .int .u64 (p2 : Int)])] := H5
          have l1 := H5.ldO ty_u64 1 rfl 0 (v := .int .u64 (p1 : Int)) rfl
          have l2 := H5.ldO ty_u64 0 rfl 0 (v := .int .u64 (a : Int)) rfl
          have l3 := H5.ldO ty_u64 1 rfl 1 (v := .int .u64 (p2 : Int)) rfl
          have l4 := H5.ldO ty_u64 0 rfl 1 (v := .int .u64 (b : Int)) rfl
          by_cases hc1 : p1 ≤ a
          · have e : z = false := by rw [HZK.out, HDK.out]; unfold sgOk; simp; intro _; omega
            have hc : (p1 : Int) ≤ (a : Int) := by omega
            have E := Lib.hid e
            clear e hc1
            go_wp2_with fail
            go_ret
            exact ⟨by rw [E.out]; rfl, H5.be⟩
          · have hc : ¬ (p1 : Int) ≤ (a : Int) := by omega
            by_cases hc2 : p2 < b
            · have e : z = false := by rw [HZK.out, HDK.out]; unfold sgOk; simp; intro _ _; omega
              have hc3 : (p2 : Int) < (b : Int) := by omega
              have E := Lib.hid e
              clear e hc1 hc2
              go_wp2_with fail
              go_ret
              exact ⟨by rw [E.out]; rfl, H5.be⟩
            · have hc3 : ¬ (p2 : Int) < (b : Int) := by omega
              have e : Hid (z = sgOk p1 p2 (l.drop (k + 1))) := by
                show _ = _
                rw [HZK.out, HDK.out]
                show (decide _ && (decide _ && _)) = _
                rw [decide_eq_true (by omega), decide_eq_true (by omega)]
                rfl
              clear hc1 hc2
              have l5 := H5.ldA ty_part 1 rfl 0 (vs := #[.int .u64 (p1 : Int), .int .u64 (p2 : Int)]) rfl (Nat.le_of_ble_eq_true rfl)
              obtain ⟨w6, s6, H6, _⟩ := H5.stA ty_part 0 rfl 0 #[.int .u64 (p1 : Int), .int .u64 (p2 : Int)] (cs' := #[.int .u64 (p1 : Int), .int .u64 (p2 : Int)]) rfl (L' := [(g, 122, #[.int .u64 (p1 : Int), .int .u64 (p2 : Int)]), (g5, 122, #[.int .u64 (p1 : Int), .int .u64 (p2 : Int)])]) rfl (Nat.le_of_ble_eq_true rfl) rfl rfl
              go_wp2
              go_roundw
              case rel => exact ⟨k + 1, p1, p2, by omega, hp1, hp2, by go_num, e, H6.drop 1 rfl⟩
              case measure => have := HS.out; simp [intOf]; omega
        · have e : z = true := by rw [HZK.out, List.drop_of_length_le (by omega)]; rfl
          have E := Lib.hid e
          clear e hs
          go_wp2_with fail
          go_ret
          exact ⟨by rw [E.out]; rfl, HL.out.be⟩
theorem cks_short {l : List Nat} (h : l.length ≤ 1) : ckOk l = true := by
  match l, h with
  | [], _ => rfl
  | [_], _ => rfl
set_option maxHeartbeats 1000000 in
theorem cks_c (l : List Nat) (ao : Option Addr) (cap : Nat) (w : World) (h : NsAt w ao l) (hf : ckFit l) (hl : l.length ≤ maxLen) :
    Calls Tryz.prog 118 #[.slice ao l.length cap] w fun R w' => R = .returned (.bool (cksB l)) ∧ Below w.heap.size w w' := by
  have HA := Lib.hid h
  have HF := Lib.hid hf
  clear h hf
  simp only [maxLen] at hl
  by_cases h1 : 2 < l.length
  · have hz : cksB l = false := by unfold cksB; simp; intro h2; omega
    rw [hz]
    have h2 : (2 : Int) < (l.length : Int) := by omega
    go_enter Tryz.func118, Tryz.ntmps118
    go_wp2_with fail
    go_ret
    exact ⟨rfl, Below.refl _ _⟩
  · have hz : cksB l = ckOk l := by unfold cksB; rw [decide_eq_true (by omega)]; rfl
    rw [hz]
    have h2 : ¬ (2 : Int) < (l.length : Int) := by omega
    obtain ⟨z, hzz⟩ : ∃ z, z = ckOk l := ⟨_, rfl⟩
    rw [← hzz]
    have HZ := Lib.hid hzz
    have HS := Lib.hid (show l.length ≤ 2 by omega)
    clear hz hzz h1 hl
    go_enter Tryz.func118, Tryz.ntmps118
    go_wp2
    clear h2
    go_loopw [3] (fun i wr => ∃ k : Nat, k ≤ l.length ∧ i = .int .i64 ((k : Int) + 1) ∧ Hid (z = ckOk (l.drop k)) ∧ Hid (Below w.heap.size w wr)) (fun i _ => 3 - (intOf i).toNat)
    case atStart => exact ⟨0, Nat.zero_le _, rfl, HZ.out, Below.refl _ _⟩
    case round =>
      obtain ⟨k, hk, rfl, HZK, HB⟩ := hrel
      have hs := HS.out
      clear HZ
      by_cases hlt : k + 1 < l.length
      · obtain ⟨bb, oo, rfl, hone⟩ := HA.out.one hlt
        obtain ⟨bb2, oo2, e2, hone2⟩ := HA.out.one (show k < l.length by omega)
        cases e2
        have hx1 := HF.out _ (List.getElem_mem hlt)
        have hx2 := HF.out _ (List.getElem_mem (show k < l.length by omega))
        have d1 := fun n => hone _ (below_drewN HB.out n)
        have d2 := fun n => hone2 _ (below_drewN HB.out n)
        have HDK := Lib.hid (List.drop_eq_getElem_cons (show k < l.length by omega))
        have HDK2 := Lib.hid (List.drop_eq_getElem_cons hlt)
        clear hone hone2
        generalize l[k + 1]'hlt = x at *
        generalize l[k]'(show k < l.length by omega) = y at *
        have hw1 : IntKind.i64.wrap ((k : Int) + 1 - 1) = (k : Int) := by rw [show (k : Int) + 1 - 1 = (k : Int) by omega]; exact IntWalk.i64_in _ (by omega)
        have hlt1 : (k : Int) + 1 < (l.length : Int) := by omega
        by_cases hc : y ≤ x
        · have e : z = false := by rw [HZK.out, HDK.out, HDK2.out]; unfold ckOk; simp; intro _; omega
          have E := Lib.hid e
          have hc1 : decide ((y : Int) ≤ (x : Int)) = true := by simp; omega
          have hc2 : decide (y ≤ x) = true := by simp; omega
          clear e hc
          go_upto_region 6 with fail
          go_quiet (fail)
          go_wp2_with fail
          go_ret
          exact ⟨by rw [E.out]; rfl, below_drewN HB.out _⟩
        · have E : Hid (z = ckOk (l.drop (k + 1))) := by
            show _ = _
            rw [HZK.out, HDK.out, HDK2.out]
            show (decide _ && _) = _
            rw [decide_eq_true (by omega)]; rfl
          have hc1 : decide ((y : Int) ≤ (x : Int)) = false := by simp; omega
          have hc2 : decide (y ≤ x) = false := by simp; omega
          clear hc
          go_upto_region 6 with fail
          go_quiet (fail)
          go_wp2
          go_roundw
          case rel => exact ⟨k + 1, by omega, by go_num, E.out, below_drewN HB.out _⟩
          case measure => have := HS.out; simp [intOf]; omega
      · have e : z = true := by rw [HZK.out]; exact cks_short (by rw [List.length_drop]; omega)
        have E := Lib.hid e
        have hlt1 : ¬ (k : Int) + 1 < (l.length : Int) := by omega
        clear e
        go_wp2_with fail
        go_ret
        exact ⟨by rw [E.out]; rfl, HB.out⟩
end Go.Proofs.YtgeaacabpnepmaaGreatDoor
