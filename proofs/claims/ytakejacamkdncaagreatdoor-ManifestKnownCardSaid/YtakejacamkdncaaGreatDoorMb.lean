/- Rows of segments and of numbers: read where they lie; a row of one's own, and how it grows; a manifest's cells. Nothing of the program but the shapes of its types. -/
import Derived.Test.YtakejacamkdncaaGreatDoorMa
import Derived.Test.YtakejacamkdncaaGreatDoorTk
import Derived.Deep.AppendLies
namespace Go.Proofs.YtakejacamkdncaaGreatDoor
open Go.RowKit
set_option linter.unusedVariables false
set_option linter.unusedSimpArgs false
set_option maxRecDepth 20000

theorem run_ldV {T : TypeId} {n : Nat} (ty : TyA T n) {w : World} {g o : Nat} (vs : List Value) (hn : vs.length = n) (h : ∀ j v, vs[j]? = some v → w.cell? ⟨g, o + j, none⟩ = some v) :
    (ldT T (.pointer (some ⟨g, o, none⟩))).run Tryz.prog w = .ok (.agg vs.toArray) w := by
  have hl := run_loadCells_list (P := Tryz.prog) w ⟨g, o, none⟩ vs (fun j v hv => by
    have hadd : (⟨g, o, none⟩ : Addr).add j = ⟨g, o + j, none⟩ := by unfold Addr.add; split <;> simp_all
    rw [hadd]; exact h j v hv)
  rw [hn] at hl
  obtain ⟨i, hi, hs⟩ := Option.map_eq_some_iff.1 ty.info
  simp [ldT, Instr.loadAt, Instr.sureAddr, loadVar, ty.agg w, sizeOf, typeInfo, hi, hs, hl]
theorem run_ldC {T : TypeId} (ty : TyO T) {w : World} {b o : Nat} {v : Value} (hc : w.cell? ⟨b, o, none⟩ = some v) : (ldT T (.pointer (some ⟨b, o, none⟩))).run Tryz.prog w = .ok v w := by
  simp [ldT, Instr.loadAt, Instr.sureAddr, loadVar, ty.agg w, hc, go_sem]
theorem ty_man : TyA 34 4 := tya_struct Tryz.underlying34 (by kernel_rfl)
theorem ty_part : TyA 61 2 := tya_struct Tryz.underlying61 (by kernel_rfl)
theorem ty_parts : TyO 31 := tyo_of Tryz.underlying31 rfl (by kernel_rfl)
theorem ty_nums : TyO 32 := tyo_of Tryz.underlying32 rfl (by kernel_rfl)
theorem ld_man (v : Value) : Instr.loadAt 34 v = ldT 34 v := rfl
theorem ld_part (v : Value) : Instr.loadAt 61 v = ldT 61 v := rfl
theorem ld_parts (v : Value) : Instr.loadAt 31 v = ldT 31 v := rfl
theorem ld_nums (v : Value) : Instr.loadAt 32 v = ldT 32 v := rfl
theorem st_man (p v : Value) : Instr.storeAt 34 p v = stT 34 p v := rfl
theorem st_part (p v : Value) : Instr.storeAt 61 p v = stT 61 p v := rfl
theorem st_parts (p v : Value) : Instr.storeAt 31 p v = stT 31 p v := rfl
theorem st_nums (p v : Value) : Instr.storeAt 32 p v = stT 32 p v := rfl
theorem ty_rman : TyA 48 4 := tya_struct Tryz.underlying48 (by kernel_rfl)
theorem ty_rpart : TyA 102 2 := tya_struct Tryz.underlying102 (by kernel_rfl)
theorem ty_rparts : TyO 46 := tyo_of Tryz.underlying46 rfl (by kernel_rfl)
theorem ld_rman (v : Value) : Instr.loadAt 48 v = ldT 48 v := rfl
theorem ld_rpart (v : Value) : Instr.loadAt 102 v = ldT 102 v := rfl
theorem ld_rparts (v : Value) : Instr.loadAt 46 v = ldT 46 v := rfl
theorem st_rman (p v : Value) : Instr.storeAt 48 p v = stT 48 p v := rfl
theorem st_rpart (p v : Value) : Instr.storeAt 102 p v = stT 102 p v := rfl
theorem st_rparts (p v : Value) : Instr.storeAt 46 p v = stT 46 p v := rfl
theorem info_part : (Tryz.prog.info? 61).map (fun i => (i.zero, i.size, i.bytes)) = some (some (.agg #[.int .u64 0, .int .u64 0]), 2, 16) := by kernel_rfl
theorem info_rpart : (Tryz.prog.info? 102).map (fun i => (i.zero, i.size, i.bytes)) = some (some (.agg #[.int .u64 0, .int .u64 0]), 2, 16) := by kernel_rfl
theorem info_num : (Tryz.prog.info? 30).map (fun i => (i.zero, i.size, i.bytes)) = some (some (.int .u64 0), 1, 8) := by kernel_rfl

/-- A segment's cells, a number's. -/
def gpv (p : Nat × Nat) : List Value := [.int .u64 (p.1 : Int), .int .u64 (p.2 : Int)]
def gnv (c : Nat) : List Value := [.int .u64 (c : Int)]
def Gpl (l : List (Nat × Nat)) : List Value := (l.map gpv).flatten
def Gnl (l : List Nat) : List Value := (l.map gnv).flatten
theorem Gpl_len (l : List (Nat × Nat)) : (Gpl l).length = l.length * 2 := by
  induction l with
  | nil => rfl
  | cons p l ih =>
    have e : Gpl (p :: l) = gpv p ++ Gpl l := rfl
    rw [e, List.length_append, ih, List.length_cons]
    simp [gpv]; omega
theorem Gpl_snoc (l : List (Nat × Nat)) (p : Nat × Nat) : Gpl (l ++ [p]) = Gpl l ++ gpv p := by simp [Gpl]
theorem Gpl_one (l : List (Nat × Nat)) : ∀ u ∈ Gpl l, u.oneCell' = true := by
  intro u hu
  obtain ⟨x, hx, hu⟩ := List.mem_flatten.1 hu
  obtain ⟨p, _, rfl⟩ := List.mem_map.1 hx
  simp [gpv] at hu
  rcases hu with rfl | rfl <;> rfl
theorem Gpl_at : ∀ (l : List (Nat × Nat)) (j i : Nat) (hj : j < l.length) (v : Value), (gpv (l[j]'hj))[i]? = some v → (Gpl l)[j * 2 + i]? = some v
  | a :: r, 0, i, _, v, h => by
    have hi : i < 2 := by obtain ⟨hi, _⟩ := List.getElem?_eq_some_iff.1 h; simpa [gpv] using hi
    have e : Gpl (a :: r) = gpv a ++ Gpl r := rfl
    rw [e, List.getElem?_append_left (by simp [gpv]; omega), Nat.zero_mul, Nat.zero_add]
    exact h
  | a :: r, j + 1, i, hj, v, h => by
    have ih := Gpl_at r j i (by simpa using hj) v h
    have e : Gpl (a :: r) = gpv a ++ Gpl r := rfl
    have hl : (gpv a).length = 2 := rfl
    rw [e, List.getElem?_append_right (by rw [hl]; omega), hl, show (j + 1) * 2 + i - 2 = j * 2 + i by omega]
    exact ih
/-- They can be read at this address. -/
def PsAt (w : World) (ao : Option Addr) (l : List (Nat × Nat)) : Prop := ∀ k (hk : k < l.length), ∃ b o, ao = some ⟨b, o, none⟩ ∧ ∀ i v, (gpv (l[k]'hk))[i]? = some v → w.cell? ⟨b, o + k * 2 + i, none⟩ = some v
theorem PsAt.nil (w : World) (ao : Option Addr) : PsAt w ao [] := fun k hk => by cases hk
theorem PsAt.lt {w : World} {ao : Option Addr} {l : List (Nat × Nat)} (h : PsAt w ao l) (h0 : l ≠ []) : ∀ a, ao = some a → a.block < w.heap.size := fun a e => by
  obtain ⟨b, o, e2, hc⟩ := h 0 (List.length_pos_iff.2 h0)
  rw [e] at e2
  cases e2
  exact World.block_lt_of_cell? w _ (hc 0 _ rfl)
theorem PsAt.tu {w w' : World} {ao : Option Addr} {l : List (Nat × Nat)} {B : Nat} (h : PsAt w ao l) (hb : Below B w w') (hB : l ≠ [] → ∀ a, ao = some a → a.block < B) : PsAt w' ao l := fun k hk => by
  obtain ⟨b, o, e, hc⟩ := h k hk
  refine ⟨b, o, e, fun i v hv => ?_⟩
  rw [World.cell?_of_block (w := w) (hb.block b (hB (by intro e; subst e; cases hk) _ e))]
  exact hc i v hv
theorem PsAt.to {w w' : World} {ao : Option Addr} {l : List (Nat × Nat)} (h : PsAt w ao l) (hb : Below w.heap.size w w') : PsAt w' ao l := h.tu hb (fun h0 => h.lt h0)
theorem Gnl_len (l : List (Nat)) : (Gnl l).length = l.length * 1 := by
  induction l with
  | nil => rfl
  | cons p l ih =>
    have e : Gnl (p :: l) = gnv p ++ Gnl l := rfl
    rw [e, List.length_append, ih, List.length_cons]
    simp [gnv]; omega
theorem Gnl_snoc (l : List (Nat)) (p : Nat) : Gnl (l ++ [p]) = Gnl l ++ gnv p := by simp [Gnl]
theorem Gnl_one (l : List (Nat)) : ∀ u ∈ Gnl l, u.oneCell' = true := by
  intro u hu
  obtain ⟨x, hx, hu⟩ := List.mem_flatten.1 hu
  obtain ⟨p, _, rfl⟩ := List.mem_map.1 hx
  simp [gnv] at hu
  subst hu; rfl
theorem Gnl_at : ∀ (l : List (Nat)) (j i : Nat) (hj : j < l.length) (v : Value), (gnv (l[j]'hj))[i]? = some v → (Gnl l)[j * 1 + i]? = some v
  | a :: r, 0, i, _, v, h => by
    have hi : i < 1 := by obtain ⟨hi, _⟩ := List.getElem?_eq_some_iff.1 h; simpa [gnv] using hi
    have e : Gnl (a :: r) = gnv a ++ Gnl r := rfl
    rw [e, List.getElem?_append_left (by simp [gnv]; omega), Nat.zero_mul, Nat.zero_add]
    exact h
  | a :: r, j + 1, i, hj, v, h => by
    have ih := Gnl_at r j i (by simpa using hj) v h
    have e : Gnl (a :: r) = gnv a ++ Gnl r := rfl
    have hl : (gnv a).length = 1 := rfl
    rw [e, List.getElem?_append_right (by rw [hl]; omega), hl, show (j + 1) * 1 + i - 1 = j * 1 + i by omega]
    exact ih
/-- They can be read at this address. -/
def NsAt (w : World) (ao : Option Addr) (l : List (Nat)) : Prop := ∀ k (hk : k < l.length), ∃ b o, ao = some ⟨b, o, none⟩ ∧ ∀ i v, (gnv (l[k]'hk))[i]? = some v → w.cell? ⟨b, o + k * 1 + i, none⟩ = some v
theorem NsAt.nil (w : World) (ao : Option Addr) : NsAt w ao [] := fun k hk => by cases hk
theorem NsAt.lt {w : World} {ao : Option Addr} {l : List (Nat)} (h : NsAt w ao l) (h0 : l ≠ []) : ∀ a, ao = some a → a.block < w.heap.size := fun a e => by
  obtain ⟨b, o, e2, hc⟩ := h 0 (List.length_pos_iff.2 h0)
  rw [e] at e2
  cases e2
  exact World.block_lt_of_cell? w _ (hc 0 _ rfl)
theorem NsAt.tu {w w' : World} {ao : Option Addr} {l : List (Nat)} {B : Nat} (h : NsAt w ao l) (hb : Below B w w') (hB : l ≠ [] → ∀ a, ao = some a → a.block < B) : NsAt w' ao l := fun k hk => by
  obtain ⟨b, o, e, hc⟩ := h k hk
  refine ⟨b, o, e, fun i v hv => ?_⟩
  rw [World.cell?_of_block (w := w) (hb.block b (hB (by intro e; subst e; cases hk) _ e))]
  exact hc i v hv
theorem NsAt.to {w w' : World} {ao : Option Addr} {l : List (Nat)} (h : NsAt w ao l) (hb : Below w.heap.size w w') : NsAt w' ao l := h.tu hb (fun h0 => h.lt h0)

/-- One of them: in each world that differs in new blocks alone. -/
theorem PsAt.one {w : World} {ao : Option Addr} {l : List (Nat × Nat)} (h : PsAt w ao l) {k : Nat} (hk : k < l.length) : ∃ b o, ao = some ⟨b, o, none⟩ ∧
    ∀ W, Below w.heap.size w W → (∀ T, TyA T 2 → (ldT T (.pointer (some ⟨b, o + k * 2, none⟩))).run Tryz.prog W = .ok (.agg #[.int .u64 ((l[k]'hk).1 : Int), .int .u64 ((l[k]'hk).2 : Int)]) W) ∧
      (ldT 30 (.pointer (some ⟨b, o + k * 2, none⟩))).run Tryz.prog W = .ok (.int .u64 ((l[k]'hk).1 : Int)) W ∧ (ldT 30 (.pointer (some ⟨b, o + k * 2 + 1, none⟩))).run Tryz.prog W = .ok (.int .u64 ((l[k]'hk).2 : Int)) W := by
  obtain ⟨b, o, e, _⟩ := h k hk
  refine ⟨b, o, e, fun W hW => ?_⟩
  obtain ⟨b', o', e', hc⟩ := h.to hW k hk
  rw [e] at e'
  cases e'
  exact ⟨fun T ty => run_ldV ty (gpv (l[k]'hk)) rfl hc, run_ldC ty_u64 (hc 0 _ rfl), run_ldC ty_u64 (hc 1 _ rfl)⟩
theorem NsAt.one {w : World} {ao : Option Addr} {l : List Nat} (h : NsAt w ao l) {k : Nat} (hk : k < l.length) : ∃ b o, ao = some ⟨b, o, none⟩ ∧
    ∀ W, Below w.heap.size w W → (ldT 30 (.pointer (some ⟨b, o + k, none⟩))).run Tryz.prog W = .ok (.int .u64 ((l[k]'hk : Nat) : Int)) W := by
  obtain ⟨b, o, e, _⟩ := h k hk
  refine ⟨b, o, e, fun W hW => ?_⟩
  obtain ⟨b', o', e', hc⟩ := h.to hW k hk
  rw [e] at e'
  cases e'
  have h1 := hc 0 _ rfl
  rw [Nat.mul_one, Nat.add_zero] at h1
  exact run_ldC ty_u64 h1

theorem own_low {w : World} {B B' : Nat} {e : TypeId} {k n : Nat} {v : Value} {xs : List Value} (h : w.ownsRow B e k v n xs) (hB : B' ≤ B) : w.ownsRow B' e k v n xs :=
  ⟨h.1, h.2.imp id fun ⟨g, cap, cur, hv, hb, hr⟩ => ⟨g, cap, cur, hv, Nat.le_trans hB hb, hr⟩⟩
/-- A row of one's own, elements of k cells, at B or beyond, none of these blocks. -/
structure Grw (T : TypeId) (k B : Nat) (w : World) (bs : List Nat) (ao : Option Addr) (n cap : Nat) (xs : List Value) : Prop where
  own : w.ownsRow B T k (.slice ao n cap) n xs
  far : ∀ b ∈ bs, (Value.slice ao n cap).ownBlock ≠ some b
  lo : ∀ b ∈ bs, b < w.heap.size
section
variable {T TS : TypeId} {k B B0 : Nat} {w0 w w' : World} {L L' : List (Nat × TypeId × Array Value)} {bs : List Nat} {ao : Option Addr} {n cap : Nat} {xs : List Value}
theorem Grw.none (T : TypeId) (k B : Nat) (w : World) (bs : List Nat) (hl : ∀ b ∈ bs, b < w.heap.size) : Grw T k B w bs none 0 0 [] := ⟨World.ownsRow_nil _ _ _ _, (fun b _ h => (by cases h)), hl⟩
theorem Grw.to (h : Grw T k B w bs ao n cap xs) (hb : Below w.heap.size w w') : Grw T k B w' bs ao n cap xs :=
  ⟨h.own.kept (grown_of_below (r := Option.none) hb) (by cases hv : (Value.slice ao n cap).ownBlock <;> simp), h.far, fun b hbb => Nat.lt_of_lt_of_le (h.lo b hbb) hb.size⟩
theorem Grw.turn (h : Grw T k B w bs ao n cap xs) {g : Nat} (hg : g ∈ bs) (hb : w.grownBy w' (some g)) : Grw T k B w' bs ao n cap xs :=
  ⟨h.own.kept hb (.inr (h.far g hg)), h.far, fun b hbb => Nat.lt_of_lt_of_le (h.lo b hbb) hb.size⟩
theorem Grw.keep (h : Grw T k B w bs ao n cap xs) {row : Option Nat} (hb : w.grownBy w' row) (hne : (Value.slice ao n cap).ownBlock = Option.none ∨ (Value.slice ao n cap).ownBlock ≠ row) : Grw T k B w' bs ao n cap xs :=
  ⟨h.own.kept hb hne, h.far, fun b hbb => Nat.lt_of_lt_of_le (h.lo b hbb) hb.size⟩
theorem Grw.less (h : Grw T k B w bs ao n cap xs) {bs' : List Nat} (hs : ∀ b ∈ bs', b ∈ bs) : Grw T k B w bs' ao n cap xs := ⟨h.own, fun b hb => h.far b (hs b hb), fun b hb => h.lo b (hs b hb)⟩
theorem Grw.low {B' : Nat} (h : Grw T k B w bs ao n cap xs) (hB : B' ≤ B) : Grw T k B' w bs ao n cap xs := ⟨own_low h.own hB, h.far, h.lo⟩
theorem Grw.fresh (h : Grw T k B w bs ao n cap xs) (hg : Below w.heap.size w w') {g : Nat} (e : w.heap.size ≤ g) (hlt : g < w'.heap.size) : Grw T k B w' (bs ++ [g]) ao n cap xs := by
  have h1 := h.to hg
  refine ⟨h1.own, fun b hb e' => ?_, fun b hb => ?_⟩
  · rcases List.mem_append.1 hb with hb | hb
    · exact h.far b hb e'
    · rw [List.mem_singleton] at hb
      have := (h.own.lt b e').2
      omega
  · rcases List.mem_append.1 hb with hb | hb
    · exact h1.lo b hb
    · rw [List.mem_singleton] at hb; omega
theorem Loc.ownG (h : Loc B0 w0 w L) (hB : B0 ≤ B) (hr : Grw T k B w bs ao n cap xs) (hbs : ∀ e ∈ L, e.1 ∈ bs) (hb : w.grownBy w' (Value.slice ao n cap).ownBlock) : Loc B0 w0 w' L := by
  cases hv : (Value.slice ao n cap).ownBlock with
  | none => rw [hv] at hb; exact h.grown hb
  | some r =>
    rw [hv] at hb
    exact h.row hb (Nat.le_trans hB (hr.own.lt r hv).1) (fun e he q => hr.far e.1 (hbs e he) (by rw [hv, q]))
/-- Two rows of cells of types unlike. -/
theorem Grw.unlike {T2 : TypeId} {k2 B2 : Nat} {bs2 : List Nat} {ao2 : Option Addr} {n2 cap2 : Nat} {xs2 : List Value} (h : Grw T k B w bs ao n cap xs) (h2 : Grw T2 k2 B2 w bs2 ao2 n2 cap2 xs2) (hT : T ≠ T2) : (Value.slice ao n cap).ownBlock = Option.none ∨ (Value.slice ao n cap).ownBlock ≠ (Value.slice ao2 n2 cap2).ownBlock := by
  rcases h.own.2 with ⟨hv, _⟩ | ⟨g, c, cur, hv, _, h6, _⟩
  · left; rw [hv]; rfl
  · right
    rcases h2.own.2 with ⟨hv2, _⟩ | ⟨g2, c2, cur2, hv2, _, h62, _⟩
    · rw [hv, hv2]; intro e; cases e
    · rw [hv, hv2]
      intro e
      have e : g = g2 := by simpa [Value.ownBlock] using e
      subst e
      rw [h6] at h62
      simp at h62
      exact hT h62.2
/-- append(row, an element): the literal's block is new. -/
theorem app_part {o : Oper} {a : Act} {K : Act → World → Prop} {Q : Exit → Act → World → Prop} (hu : Tryz.prog.underlying TS = some (.slice T)) (hi : (Tryz.prog.info? T).map (fun i => (i.zero, i.size, i.bytes)) = some (some (.agg #[.int .u64 0, .int .u64 0]), 2, 16)) (s x : Operand)
    (ho : o.op = .call { callee := .builtin .append, args := #[s, x], argTypes := #[TS, TS] }) (hs : a.eval s = .slice ao n cap) (p : Nat × Nat) (hx : a.eval x = .slice (some ⟨w.heap.size, 0, none⟩) 1 1)
    (hR : Grw T 2 B w bs ao n cap xs) (hL : Loc B0 w0 w L) (hB : B0 ≤ B) (hB2 : B ≤ w.heap.size) (hbs : ∀ e ∈ L, e.1 ∈ bs) (hn : n ≤ 1000000)
    (h : ∀ r' cap' w', Grw T 2 B w' bs (some ⟨r', 0, none⟩) (n + 1) cap' (xs ++ gpv p) → Loc B0 w0 w' L → (w.alloc (.cells (gpv p).toArray T)).grownBy w' (Value.slice ao n cap).ownBlock → K (a.put o.dst (.slice (some ⟨r', 0, none⟩) (n + 1) cap')) w') :
    Oper.wp Tryz.prog o a (w.alloc (.cells (gpv p).toArray T)) K Q := by
  obtain ⟨i0, hi0, hz0, hz1, hz2⟩ := info_parts hi
  have hal : w.grownBy (w.alloc (.cells (gpv p).toArray T)) Option.none := grown_alloc _ _
  have hR1 : Grw T 2 B (w.alloc (.cells (gpv p).toArray T)) bs ao n cap xs := hR.to (below_of_grown hal)
  have hL1 : Loc B0 w0 (w.alloc (.cells (gpv p).toArray T)) L := hL.grown hal
  have hc : Cells (w.alloc (.cells (gpv p).toArray T)) w.heap.size T (gpv p).toArray := Cells.made w _ _
  refine wp_append_lies (w.alloc (.cells (gpv p).toArray T)) s x TS ho B T i0 (.agg #[.int .u64 0, .int .u64 0]) 2 16 hu hi0 hz0 hz1 hz2 rfl (by decide) (.slice ao n cap) n xs hs hR1.own ⟨w.heap.size, 0, none⟩ 1 1 (gpv p) hx rfl (fun j u hu => ?_) (by intro u hu; simp [gpv] at hu; rcases hu with rfl | rfl <;> rfl) (by decide) (by simp only [maxLen]; omega) (by omega) (by have := hal.size; omega) _ rfl ?_
  · have hadd : (⟨w.heap.size, 0, none⟩ : Addr).add j = ⟨w.heap.size, j, none⟩ := by unfold Addr.add; split <;> simp_all
    rw [hadd, hc.cell]; simpa using hu
  · intro g' cap' w1 hown1 hgr hat hlt1
    refine h g' cap' w1 ⟨hown1, fun b hb e => ?_, fun b hb => Nat.lt_of_lt_of_le (hR1.lo b hb) hgr.size⟩ (hL1.ownG hB hR1 hbs hgr) hgr
    have e : g' = b := by simpa [Value.ownBlock] using e
    subst e
    rcases hat with hat | hat
    · exact hR.far g' hb hat
    · have h1 := hR1.lo g' hb
      omega
theorem wpList_append_part {ops : Array Oper} {rest : List Oper} {o : Oper} {a : Act} {Q : Exit → Act → World → Prop} (hu : Tryz.prog.underlying TS = some (.slice T)) (hi : (Tryz.prog.info? T).map (fun i => (i.zero, i.size, i.bytes)) = some (some (.agg #[.int .u64 0, .int .u64 0]), 2, 16)) (hgd : o.guard = Option.none) (s x : Operand)
    (ho : o.op = .call { callee := .builtin .append, args := #[s, x], argTypes := #[TS, TS] }) (hs : a.eval s = .slice ao n cap) (p : Nat × Nat) (hx : a.eval x = .slice (some ⟨w.heap.size, 0, none⟩) 1 1)
    (hR : Grw T 2 B w bs ao n cap xs) (hL : Loc B0 w0 w L) (hB : B0 ≤ B) (hB2 : B ≤ w.heap.size) (hbs : ∀ e ∈ L, e.1 ∈ bs) (hn : n ≤ 1000000)
    (h : ∀ r' cap' w', Grw T 2 B w' bs (some ⟨r', 0, none⟩) (n + 1) cap' (xs ++ gpv p) → Loc B0 w0 w' L → (w.alloc (.cells (gpv p).toArray T)).grownBy w' (Value.slice ao n cap).ownBlock → wpList Tryz.prog ops Q rest (a.put o.dst (.slice (some ⟨r', 0, none⟩) (n + 1) cap')) w') :
    wpList Tryz.prog ops Q (o :: rest) a (w.alloc (.cells (gpv p).toArray T)) :=
  wpList_plain hgd fun _ hK => app_part hu hi s x ho hs p hx hR hL hB hB2 hbs hn fun r' cap' w' h1 h2 h3 => hK _ _ (h r' cap' w' h1 h2 h3)
theorem step_append_part {ops : Array Oper} {o : Oper} {a : Act} {K : Act → World → Prop} {E : Prop} {Q : Exit → Act → World → Prop} (hu : Tryz.prog.underlying TS = some (.slice T)) (hi : (Tryz.prog.info? T).map (fun i => (i.zero, i.size, i.bytes)) = some (some (.agg #[.int .u64 0, .int .u64 0]), 2, 16)) (hgd : o.guard = Option.none) (s x : Operand)
    (ho : o.op = .call { callee := .builtin .append, args := #[s, x], argTypes := #[TS, TS] }) (hs : a.eval s = .slice ao n cap) (p : Nat × Nat) (hx : a.eval x = .slice (some ⟨w.heap.size, 0, none⟩) 1 1)
    (hR : Grw T 2 B w bs ao n cap xs) (hL : Loc B0 w0 w L) (hB : B0 ≤ B) (hB2 : B ≤ w.heap.size) (hbs : ∀ e ∈ L, e.1 ∈ bs) (hn : n ≤ 1000000)
    (h : ∀ r' cap' w', Grw T 2 B w' bs (some ⟨r', 0, none⟩) (n + 1) cap' (xs ++ gpv p) → Loc B0 w0 w' L → (w.alloc (.cells (gpv p).toArray T)).grownBy w' (Value.slice ao n cap).ownBlock → K (a.put o.dst (.slice (some ⟨r', 0, none⟩) (n + 1) cap')) w') :
    if Region.wanted o (yielded ops a.tmps) = true then Oper.wp Tryz.prog o a (w.alloc (.cells (gpv p).toArray T)) K Q else E := by
  have hw : Region.wanted o (yielded ops a.tmps) = true := by simp [Region.wanted, hgd]
  rw [if_pos hw]
  exact app_part hu hi s x ho hs p hx hR hL hB hB2 hbs hn h
/-- append(row, an element): the literal's block is new. -/
theorem app_num {o : Oper} {a : Act} {K : Act → World → Prop} {Q : Exit → Act → World → Prop} (hu : Tryz.prog.underlying TS = some (.slice T)) (hi : (Tryz.prog.info? T).map (fun i => (i.zero, i.size, i.bytes)) = some (some (.int .u64 0), 1, 8)) (s x : Operand)
    (ho : o.op = .call { callee := .builtin .append, args := #[s, x], argTypes := #[TS, TS] }) (hs : a.eval s = .slice ao n cap) (c : Nat) (hx : a.eval x = .slice (some ⟨w.heap.size, 0, none⟩) 1 1)
    (hR : Grw T 1 B w bs ao n cap xs) (hL : Loc B0 w0 w L) (hB : B0 ≤ B) (hB2 : B ≤ w.heap.size) (hbs : ∀ e ∈ L, e.1 ∈ bs) (hn : n ≤ 1000000)
    (h : ∀ r' cap' w', Grw T 1 B w' bs (some ⟨r', 0, none⟩) (n + 1) cap' (xs ++ gnv c) → Loc B0 w0 w' L → (w.alloc (.cells (gnv c).toArray T)).grownBy w' (Value.slice ao n cap).ownBlock → K (a.put o.dst (.slice (some ⟨r', 0, none⟩) (n + 1) cap')) w') :
    Oper.wp Tryz.prog o a (w.alloc (.cells (gnv c).toArray T)) K Q := by
  obtain ⟨i0, hi0, hz0, hz1, hz2⟩ := info_parts hi
  have hal : w.grownBy (w.alloc (.cells (gnv c).toArray T)) Option.none := grown_alloc _ _
  have hR1 : Grw T 1 B (w.alloc (.cells (gnv c).toArray T)) bs ao n cap xs := hR.to (below_of_grown hal)
  have hL1 : Loc B0 w0 (w.alloc (.cells (gnv c).toArray T)) L := hL.grown hal
  have hc : Cells (w.alloc (.cells (gnv c).toArray T)) w.heap.size T (gnv c).toArray := Cells.made w _ _
  refine wp_append_lies (w.alloc (.cells (gnv c).toArray T)) s x TS ho B T i0 (.int .u64 0) 1 8 hu hi0 hz0 hz1 hz2 rfl (by decide) (.slice ao n cap) n xs hs hR1.own ⟨w.heap.size, 0, none⟩ 1 1 (gnv c) hx rfl (fun j u hu => ?_) (by intro u hu; simp [gnv] at hu; subst hu; rfl) (by decide) (by simp only [maxLen]; omega) (by omega) (by have := hal.size; omega) _ rfl ?_
  · have hadd : (⟨w.heap.size, 0, none⟩ : Addr).add j = ⟨w.heap.size, j, none⟩ := by unfold Addr.add; split <;> simp_all
    rw [hadd, hc.cell]; simpa using hu
  · intro g' cap' w1 hown1 hgr hat hlt1
    refine h g' cap' w1 ⟨hown1, fun b hb e => ?_, fun b hb => Nat.lt_of_lt_of_le (hR1.lo b hb) hgr.size⟩ (hL1.ownG hB hR1 hbs hgr) hgr
    have e : g' = b := by simpa [Value.ownBlock] using e
    subst e
    rcases hat with hat | hat
    · exact hR.far g' hb hat
    · have h1 := hR1.lo g' hb
      omega
theorem wpList_append_num {ops : Array Oper} {rest : List Oper} {o : Oper} {a : Act} {Q : Exit → Act → World → Prop} (hu : Tryz.prog.underlying TS = some (.slice T)) (hi : (Tryz.prog.info? T).map (fun i => (i.zero, i.size, i.bytes)) = some (some (.int .u64 0), 1, 8)) (hgd : o.guard = Option.none) (s x : Operand)
    (ho : o.op = .call { callee := .builtin .append, args := #[s, x], argTypes := #[TS, TS] }) (hs : a.eval s = .slice ao n cap) (c : Nat) (hx : a.eval x = .slice (some ⟨w.heap.size, 0, none⟩) 1 1)
    (hR : Grw T 1 B w bs ao n cap xs) (hL : Loc B0 w0 w L) (hB : B0 ≤ B) (hB2 : B ≤ w.heap.size) (hbs : ∀ e ∈ L, e.1 ∈ bs) (hn : n ≤ 1000000)
    (h : ∀ r' cap' w', Grw T 1 B w' bs (some ⟨r', 0, none⟩) (n + 1) cap' (xs ++ gnv c) → Loc B0 w0 w' L → (w.alloc (.cells (gnv c).toArray T)).grownBy w' (Value.slice ao n cap).ownBlock → wpList Tryz.prog ops Q rest (a.put o.dst (.slice (some ⟨r', 0, none⟩) (n + 1) cap')) w') :
    wpList Tryz.prog ops Q (o :: rest) a (w.alloc (.cells (gnv c).toArray T)) :=
  wpList_plain hgd fun _ hK => app_num hu hi s x ho hs c hx hR hL hB hB2 hbs hn fun r' cap' w' h1 h2 h3 => hK _ _ (h r' cap' w' h1 h2 h3)
theorem step_append_num {ops : Array Oper} {o : Oper} {a : Act} {K : Act → World → Prop} {E : Prop} {Q : Exit → Act → World → Prop} (hu : Tryz.prog.underlying TS = some (.slice T)) (hi : (Tryz.prog.info? T).map (fun i => (i.zero, i.size, i.bytes)) = some (some (.int .u64 0), 1, 8)) (hgd : o.guard = Option.none) (s x : Operand)
    (ho : o.op = .call { callee := .builtin .append, args := #[s, x], argTypes := #[TS, TS] }) (hs : a.eval s = .slice ao n cap) (c : Nat) (hx : a.eval x = .slice (some ⟨w.heap.size, 0, none⟩) 1 1)
    (hR : Grw T 1 B w bs ao n cap xs) (hL : Loc B0 w0 w L) (hB : B0 ≤ B) (hB2 : B ≤ w.heap.size) (hbs : ∀ e ∈ L, e.1 ∈ bs) (hn : n ≤ 1000000)
    (h : ∀ r' cap' w', Grw T 1 B w' bs (some ⟨r', 0, none⟩) (n + 1) cap' (xs ++ gnv c) → Loc B0 w0 w' L → (w.alloc (.cells (gnv c).toArray T)).grownBy w' (Value.slice ao n cap).ownBlock → K (a.put o.dst (.slice (some ⟨r', 0, none⟩) (n + 1) cap')) w') :
    if Region.wanted o (yielded ops a.tmps) = true then Oper.wp Tryz.prog o a (w.alloc (.cells (gnv c).toArray T)) K Q else E := by
  have hw : Region.wanted o (yielded ops a.tmps) = true := by simp [Region.wanted, hgd]
  rw [if_pos hw]
  exact app_num hu hi s x ho hs c hx hR hL hB hB2 hbs hn h
theorem told_part {l : List (Nat × Nat)} (h : Grw T 2 B w bs ao n cap (Gpl l)) (hn : l.length = n) : PsAt w ao l ∧ (∀ a, ao = some a → B ≤ a.block ∧ a.block < w.heap.size) ∧ n ≤ cap ∧ cap ≤ maxLen ∧ (ao = Option.none → cap = 0) := by
  subst hn
  have hc := fun g (e : (Value.slice ao l.length cap).ownBlock = some g) => World.ownsRow.cells (g := g) h.own e
  have hlt := fun g (e : (Value.slice ao l.length cap).ownBlock = some g) => h.own.lt g e
  rcases h.own.2 with ⟨hv, h0⟩ | ⟨b, cap2, cur, hv, _, _, hcap, hmax, _⟩
  · obtain rfl : l = [] := List.eq_nil_of_length_eq_zero h0
    injection hv with e1 e2 e3
    subst e1 e3
    exact ⟨(fun j hj => (by cases hj)), (fun a e => (by cases e)), Nat.le_refl _, Nat.zero_le _, fun _ => rfl⟩
  · injection hv with e1 e2 e3
    subst e1 e3
    refine ⟨fun j hj => ⟨b, 0, rfl, fun i v hv => ?_⟩, (fun a e => (by cases e; exact hlt b rfl)), hcap, hmax, (fun e => (by cases e))⟩
    have := hc b rfl (j * 2 + i) v (Gpl_at l j i hj v hv)
    rw [show (⟨b, 0 + j * 2 + i, none⟩ : Addr) = (⟨b, 0, none⟩ : Addr).add (j * 2 + i) from by simp [Addr.add, Nat.add_assoc]]
    exact this
theorem told_num {l : List (Nat)} (h : Grw T 1 B w bs ao n cap (Gnl l)) (hn : l.length = n) : NsAt w ao l ∧ (∀ a, ao = some a → B ≤ a.block ∧ a.block < w.heap.size) ∧ n ≤ cap ∧ cap ≤ maxLen ∧ (ao = Option.none → cap = 0) := by
  subst hn
  have hc := fun g (e : (Value.slice ao l.length cap).ownBlock = some g) => World.ownsRow.cells (g := g) h.own e
  have hlt := fun g (e : (Value.slice ao l.length cap).ownBlock = some g) => h.own.lt g e
  rcases h.own.2 with ⟨hv, h0⟩ | ⟨b, cap2, cur, hv, _, _, hcap, hmax, _⟩
  · obtain rfl : l = [] := List.eq_nil_of_length_eq_zero h0
    injection hv with e1 e2 e3
    subst e1 e3
    exact ⟨(fun j hj => (by cases hj)), (fun a e => (by cases e)), Nat.le_refl _, Nat.zero_le _, fun _ => rfl⟩
  · injection hv with e1 e2 e3
    subst e1 e3
    refine ⟨fun j hj => ⟨b, 0, rfl, fun i v hv => ?_⟩, (fun a e => (by cases e; exact hlt b rfl)), hcap, hmax, (fun e => (by cases e))⟩
    have := hc b rfl (j * 1 + i) v (Gnl_at l j i hj v hv)
    rw [show (⟨b, 0 + j * 1 + i, none⟩ : Addr) = (⟨b, 0, none⟩ : Addr).add (j * 1 + i) from by simp [Addr.add, Nat.add_assoc]]
    exact this
end

/-- A manifest's cells. -/
def mcs (m : Mf) (so : Option Addr) (sc : Nat) (co : Option Addr) (cc : Nat) : Array Value := #[.int .u64 (m.ep : Int), .int .u8 (m.pl : Int), .slice so m.sg.length sc, .slice co m.ck.length cc]
theorem mcs_one (m : Mf) (so : Option Addr) (sc : Nat) (co : Option Addr) (cc : Nat) : (mcs m so sc co cc).toList.all Value.oneCell' = true := rfl
/-- A manifest that can be read. -/
structure MfAt (w : World) (m : Mf) (so co : Option Addr) : Prop where
  fit : m.fit
  ps : PsAt w so m.sg
  ns : NsAt w co m.ck
  l1 : m.sg.length ≤ maxLen
  l2 : m.ck.length ≤ maxLen
theorem MfAt.to {w w' : World} {m : Mf} {so co : Option Addr} (h : MfAt w m so co) (hb : Below w.heap.size w w') : MfAt w' m so co := ⟨h.fit, h.ps.to hb, h.ns.to hb, h.l1, h.l2⟩
theorem MfAt.tu {w w' : World} {m : Mf} {so co : Option Addr} {B : Nat} (h : MfAt w m so co) (hb : Below B w w') (h1 : m.sg ≠ [] → ∀ a, so = some a → a.block < B) (h2 : m.ck ≠ [] → ∀ a, co = some a → a.block < B) : MfAt w' m so co := ⟨h.fit, h.ps.tu hb h1, h.ns.tu hb h2, h.l1, h.l2⟩
theorem mz_at (w : World) : MfAt w mz none none := ⟨mz_fit, PsAt.nil _ _, NsAt.nil _ _, by decide, by decide⟩
end Go.Proofs.YtakejacamkdncaaGreatDoor
