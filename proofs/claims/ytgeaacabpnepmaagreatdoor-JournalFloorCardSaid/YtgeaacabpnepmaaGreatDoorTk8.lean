/- Texts of the walk. -/
import Derived.Test.YtgeaacabpnepmaaGreatDoorAc8
import Derived.Deep.DeepCutAuto
/- The blocks of a call's own, whatever lies in them: loads and stores of whatever size as one step of the walk each, a letter for the world behind each store. Nothing of the program but the shapes of its types. -/
namespace Go.Proofs.YtgeaacabpnepmaaGreatDoor
open Go.RowKit
set_option linter.unusedVariables false
set_option linter.unusedSimpArgs false

def ldT (T : TypeId) (v : Value) : Sem Value := Instr.loadAt T v
def stT (T : TypeId) (p v : Value) : Sem Unit := Instr.storeAt T p v
structure TyA (T : TypeId) (n : Nat) : Prop where
  agg : ∀ w : World, (isAgg T).run Tryz.prog w = .ok true w
  info : (Tryz.prog.info? T).map (·.size) = some n
structure TyO (T : TypeId) : Prop where
  agg : ∀ w : World, (isAgg T).run Tryz.prog w = .ok false w
  info : (Tryz.prog.info? T).map (·.size) = some 1
theorem tya_struct {T : TypeId} {n : Nat} {fs : Array Field} (h : Tryz.prog.underlying T = some (.struct fs)) (hi : (Tryz.prog.info? T).map (·.size) = some n) : TyA T n :=
  ⟨fun w => by unfold isAgg; rw [Sem.run_bind, run_underlying h w]; simp, hi⟩
theorem tya_array {T e : TypeId} {n k : Nat} (h : Tryz.prog.underlying T = some (.array k e)) (hi : (Tryz.prog.info? T).map (·.size) = some n) : TyA T n :=
  ⟨fun w => by unfold isAgg; rw [Sem.run_bind, run_underlying h w]; simp, hi⟩
theorem tyo_of {T : TypeId} {d : TypeDesc} (h : Tryz.prog.underlying T = some d) (hd : (match d with | .struct _ | .array _ _ => true | _ => false) = false) (hi : (Tryz.prog.info? T).map (·.size) = some 1) : TyO T :=
  ⟨fun w => by unfold isAgg; rw [Sem.run_bind, run_underlying h w]; cases d <;> simp_all, hi⟩
theorem run_ldA {T : TypeId} {n : Nat} (ty : TyA T n) {w : World} {g : Nat} {t : TypeId} {cs : Array Value} (h : Cells w g t cs) (o : Nat) (ho : o + n ≤ cs.size) :
    (ldT T (.pointer (some ⟨g, o, none⟩))).run Tryz.prog w = .ok (.agg ((cs.toList.drop o).take n).toArray) w := by
  have hl := run_loadCells_list (P := Tryz.prog) w ⟨g, o, none⟩ ((cs.toList.drop o).take n) (fun j v hv => by
    have hadd : (⟨g, o, none⟩ : Addr).add j = ⟨g, o + j, none⟩ := by unfold Addr.add; split <;> simp_all
    rw [hadd, h.cell, ← Array.getElem?_toList]
    rw [List.getElem?_take] at hv
    split at hv
    · rwa [List.getElem?_drop] at hv
    · cases hv)
  have hlen : ((cs.toList.drop o).take n).length = n := by simp; omega
  rw [hlen] at hl
  obtain ⟨i, hi, hs⟩ := Option.map_eq_some_iff.1 ty.info
  simp [ldT, Instr.loadAt, Instr.sureAddr, loadVar, ty.agg w, sizeOf, typeInfo, hi, hs, hl]
theorem run_ldO {T : TypeId} (ty : TyO T) {w : World} {g : Nat} {t : TypeId} {cs : Array Value} (h : Cells w g t cs) (o : Nat) {v : Value} (hv : cs[o]? = some v) :
    (ldT T (.pointer (some ⟨g, o, none⟩))).run Tryz.prog w = .ok v w := by
  have hc : w.cell? ⟨g, o, none⟩ = some v := by rw [h.cell, hv]
  simp [ldT, Instr.loadAt, Instr.sureAddr, loadVar, ty.agg w, hc, go_sem]
theorem run_stA {T : TypeId} {n : Nat} (ty : TyA T n) {w : World} {g : Nat} {t : TypeId} {old cs : Array Value} (h : Cells w g t old) (o : Nat) (ho : o + n ≤ old.size) (hc : cs.size = n) (h1 : cs.toList.all Value.oneCell' = true) :
    (stT T (.pointer (some ⟨g, o, none⟩)) (.agg cs)).run Tryz.prog w = .ok () (w.setRow g (old.toList.take o ++ cs.toList ++ old.toList.drop (o + n)).toArray) := by
  have hst := run_storeCells_at Tryz.prog g o t cs.toList 0 old w h (by simp [hc]; omega) (fun v hv => List.all_eq_true.1 h1 v hv)
  rw [Nat.add_zero, show cs.toList.length = n from by simpa using hc] at hst
  obtain ⟨i, hi, hs⟩ := Option.map_eq_some_iff.1 ty.info
  simp [stT, Instr.storeAt, Instr.sureAddr, storeVar, sizeOf, typeInfo, hi, hs, Value.cells, hc, hst]
theorem run_stO {T : TypeId} (ty : TyO T) {w : World} {g : Nat} {t : TypeId} {old : Array Value} (h : Cells w g t old) (o : Nat) (ho : o < old.size) (v : Value) (h1 : v.oneCell' = true) (hv : v.cells = #[v]) :
    (stT T (.pointer (some ⟨g, o, none⟩)) v).run Tryz.prog w = .ok () (w.setRow g (old.toList.take o ++ [v] ++ old.toList.drop (o + 1)).toArray) := by
  have hst := run_storeCells_at Tryz.prog g o t [v] 0 old w h (by simp; omega) (fun u hu => by rw [List.mem_singleton] at hu; rw [hu]; exact h1)
  rw [Nat.add_zero, show [v].length = 1 from rfl] at hst
  obtain ⟨i, hi, hs⟩ := Option.map_eq_some_iff.1 ty.info
  simp [stT, Instr.storeAt, Instr.sureAddr, storeVar, sizeOf, typeInfo, hi, hs, hv, hst]
theorem ret_struct {W : World} {g : Nat} {cs : Array Value} {T : TypeId} {fs : Array Field} (hu : Tryz.prog.underlying T = some (.struct fs)) {n : Nat} (ty : TyA T n) (tmps : Array Value) (p : Tmp) (fn : Func) (hr : fn.results = #[.cell p T]) (h : Cells W g T cs) (hs : cs.size = n) (h2 : tmps.getD p undef = .pointer (some ⟨g, 0, none⟩)) :
    (results fn tmps).run Tryz.prog W = .ok (.agg cs) W := results_cell_row hr tmps W g _ cs (0, 0) _ h2 h hu rfl (by rw [hs]; exact ty.info)
structure Loc (B : Nat) (w0 w : World) (L : List (Nat × TypeId × Array Value)) : Prop where
  hb : B ≤ w0.heap.size
  be : Below B w0 w
  ge : ∀ e ∈ L, B ≤ e.1
  nd : (L.map Prod.fst).Nodup
  cs : ∀ e ∈ L, Cells w e.1 e.2.1 e.2.2
section
variable {B : Nat} {w0 w w' : World} {L L' : List (Nat × TypeId × Array Value)} {k g : Nat} {t T : TypeId} {cs : Array Value}
theorem Loc.nil {B : Nat} {w : World} (h : B ≤ w.heap.size) : Loc B w w [] := ⟨h, Below.refl _ _, fun _ h => (by cases h), List.nodup_nil, fun _ h => (by cases h)⟩
theorem Loc.get (h : Loc B w0 w L) (k : Nat) (hk : L[k]? = some (g, t, cs)) : Cells w g t cs := h.cs _ (List.mem_of_getElem? hk)
theorem Loc.bge (h : Loc B w0 w L) (k : Nat) (hk : L[k]? = some (g, t, cs)) : B ≤ g := h.ge _ (List.mem_of_getElem? hk)
theorem Loc.size (h : Loc B w0 w L) : B ≤ w.heap.size := Nat.le_trans h.hb h.be.size
theorem Loc.low (h : Loc B w0 w L) {e : Nat × TypeId × Array Value} (he : e ∈ L) : e.1 < w.heap.size := (h.cs e he).lt
theorem Loc.to (h : Loc B w0 w L) (hb : Below w.heap.size w w') : Loc B w0 w' L :=
  ⟨h.hb, h.be.trans (hb.mono h.size), h.ge, h.nd, fun e he => (h.cs e he).below hb (h.low he)⟩
theorem Loc.drew (h : Loc B w0 w L) : Loc B w0 w.drew L := h.to (Below.refl _ w).drew
theorem Loc.grown (h : Loc B w0 w L) (hb : w.grownBy w' none) : Loc B w0 w' L := h.to (below_of_grown hb)
theorem Loc.row (h : Loc B w0 w L) {r : Nat} (hb : w.grownBy w' (some r)) (hr : B ≤ r) (hn : ∀ e ∈ L, e.1 ≠ r) : Loc B w0 w' L :=
  ⟨h.hb, h.be.trans (grown_nb hb (fun q e => by cases e; exact hr) h.size), h.ge, h.nd, fun e he => (h.cs e he).grown hb (fun q => hn e he (Option.some.inj q))⟩
theorem Loc.sub (h : Loc B w0 w L) (hs : L'.Sublist L) : Loc B w0 w L' :=
  ⟨h.hb, h.be, fun e he => h.ge e (hs.subset he), (hs.map Prod.fst).nodup h.nd, fun e he => h.cs e (hs.subset he)⟩
theorem Loc.drop (h : Loc B w0 w L) (n : Nat) (e : L.take n = L') : Loc B w0 w L' := h.sub (e ▸ List.take_sublist n L)
theorem Loc.turn (h : Loc B w0 w L) (cs' : Array Value) (hk : L[k]? = some (g, t, cs)) (hL : L.set k (g, t, cs') = L') (hb : w.grownBy w' (some g)) (hc : Cells w' g t cs') : Loc B w0 w' L' := by
  have hlt : k < L.length := by
    rcases Nat.lt_or_ge k L.length with h1 | h1
    · exact h1
    · rw [List.getElem?_eq_none h1] at hk; cases hk
  have hkk : L[k] = (g, t, cs) := by rw [List.getElem?_eq_getElem hlt] at hk; exact Option.some.inj hk
  have hm : L'.map Prod.fst = L.map Prod.fst := by
    rw [← hL, List.map_set]
    apply List.ext_getElem?
    intro i
    rw [List.getElem?_set]
    split
    · rename_i e; subst e; simp [hlt, hkk]
    · rfl
  have hbg : B ≤ g := h.bge k hk
  refine ⟨h.hb, h.be.trans (grown_nb hb (fun q e => by cases e; exact hbg) h.size), fun e he => ?_, by rw [hm]; exact h.nd, fun e he => ?_⟩
  · have : e.1 ∈ L'.map Prod.fst := List.mem_map_of_mem he
    rw [hm] at this
    obtain ⟨a, ha, hae⟩ := List.mem_map.1 this
    rw [← hae]; exact h.ge a ha
  · obtain ⟨i, hi, rfl⟩ := List.getElem_of_mem he
    subst hL
    simp only [List.length_set] at hi
    rw [List.getElem_set]
    split
    · exact hc
    · rename_i hne
      have hcell := h.cs (L[i]'hi) (List.getElem_mem hi)
      refine hcell.grown hb ?_
      intro e
      have e := Option.some.inj e
      have hnd := h.nd
      rw [List.nodup_iff_pairwise_ne, List.pairwise_iff_getElem] at hnd
      rcases Nat.lt_trichotomy i k with h1 | h1 | h1
      · exact hnd i k (by simpa using hi) (by simpa using hlt) h1 (by simp [hkk, e])
      · exact hne h1.symm
      · exact hnd k i (by simpa using hlt) (by simpa using hi) h1 (by simp [hkk, e])
theorem Loc.swap (h : Loc B w0 w L) (cs' : Array Value) (hk : L[k]? = some (g, t, cs)) (hL : L.set k (g, t, cs') = L') : Loc B w0 (w.setRow g cs') L' :=
  h.turn cs' hk hL (grown_setRow _ _ _) (setRow_heap _ _ _ _ _ _ (h.get k hk))
theorem Loc.ldA (h : Loc B w0 w L) {n : Nat} (ty : TyA T n) (k : Nat) (hk : L[k]? = some (g, t, cs)) (o : Nat) {vs : Array Value} (hv : ((cs.toList.drop o).take n).toArray = vs) (ho : o + n ≤ cs.size) : (ldT T (.pointer (some ⟨g, o, none⟩))).run Tryz.prog w = .ok (.agg vs) w := by
  rw [← hv]; exact run_ldA ty (h.get k hk) o ho
theorem Loc.ldO (h : Loc B w0 w L) (ty : TyO T) (k : Nat) (hk : L[k]? = some (g, t, cs)) (o : Nat) {v : Value} (hv : cs[o]? = some v) : (ldT T (.pointer (some ⟨g, o, none⟩))).run Tryz.prog w = .ok v w := run_ldO ty (h.get k hk) o hv
theorem Loc.onA (h : Loc B w0 w L) {n : Nat} (ty : TyA T n) (k : Nat) (hk : L[k]? = some (g, t, cs)) (o : Nat) {vs : Array Value} (hv : ((cs.toList.drop o).take n).toArray = vs) (ho : o + n ≤ cs.size) : ∀ w', G.On w.heap.size w w' → (ldT T (.pointer (some ⟨g, o, none⟩))).run Tryz.prog w' = .ok (.agg vs) w' := fun _ hw => (h.to hw).ldA ty k hk o hv ho
theorem Loc.onO (h : Loc B w0 w L) (ty : TyO T) (k : Nat) (hk : L[k]? = some (g, t, cs)) (o : Nat) {v : Value} (hv : cs[o]? = some v) : ∀ w', G.On w.heap.size w w' → (ldT T (.pointer (some ⟨g, o, none⟩))).run Tryz.prog w' = .ok v w' := fun _ hw => (h.to hw).ldO ty k hk o hv
theorem Loc.stA (h : Loc B w0 w L) {n : Nat} (ty : TyA T n) (k : Nat) (hk : L[k]? = some (g, t, cs)) (o : Nat) (vs : Array Value) {cs' : Array Value} (he : (cs.toList.take o ++ vs.toList ++ cs.toList.drop (o + n)).toArray = cs') (hL : L.set k (g, t, cs') = L') (ho : o + n ≤ cs.size) (hc : vs.size = n) (h1 : vs.toList.all Value.oneCell' = true) :
    ∃ w', (stT T (.pointer (some ⟨g, o, none⟩)) (.agg vs)).run Tryz.prog w = .ok () w' ∧ Loc B w0 w' L' ∧ w.grownBy w' (some g) :=
  ⟨_, by rw [run_stA ty (h.get k hk) o ho hc h1, he], h.swap cs' hk hL, grown_setRow _ _ _⟩
theorem Loc.stO (h : Loc B w0 w L) (ty : TyO T) (k : Nat) (hk : L[k]? = some (g, t, cs)) (o : Nat) (v : Value) {cs' : Array Value} (he : (cs.toList.take o ++ [v] ++ cs.toList.drop (o + 1)).toArray = cs') (hL : L.set k (g, t, cs') = L') (ho : o < cs.size) (h1 : v.oneCell' = true) (hv : v.cells = #[v]) :
    ∃ w', (stT T (.pointer (some ⟨g, o, none⟩)) v).run Tryz.prog w = .ok () w' ∧ Loc B w0 w' L' ∧ w.grownBy w' (some g) :=
  ⟨_, by rw [run_stO ty (h.get k hk) o ho v h1 hv, he], h.swap cs' hk hL, grown_setRow _ _ _⟩
theorem Loc.more (h : Loc B w0 w L) (t : TypeId) (cs : Array Value) : Loc B w0 (w.alloc (.cells cs t)) (L ++ [(w.heap.size, t, cs)]) :=
  ⟨h.hb, h.be.alloc h.size _, fun e he => by
      rcases List.mem_append.1 he with he | he
      · exact h.ge e he
      · rw [List.mem_singleton] at he; subst he; exact h.size,
    by
      rw [List.map_append, List.nodup_append]
      refine ⟨h.nd, by simp, fun a ha b hb => ?_⟩
      obtain ⟨e, he, rfl⟩ := List.mem_map.1 ha
      have := h.low he
      simp at hb
      omega,
    fun e he => by
      rcases List.mem_append.1 he with he | he
      · exact (h.cs e he).alloc _
      · rw [List.mem_singleton] at he; subst he; exact Cells.made w t cs⟩
theorem Loc.newA (h : Loc B w0 w L) {n : Nat} (ty : TyA t n) (z vs : Array Value) (hz : z.size = n) (hc : vs.size = n) (h1 : vs.toList.all Value.oneCell' = true) :
    ∃ g w', w.heap.size = g ∧ (stT t (.pointer (some ⟨g, 0, none⟩)) (.agg vs)).run Tryz.prog (w.alloc (.cells z t)) = .ok () w' ∧ Loc B w0 w' (L ++ [(g, t, vs)]) ∧ w.grownBy w' none := by
  have e : (z.toList.take 0 ++ vs.toList ++ z.toList.drop (0 + n)).toArray = vs := by
    rw [List.drop_of_length_le (by simp; omega)]; simp
  refine ⟨_, _, rfl, by rw [run_stA ty (Cells.made w t z) 0 (by omega) hc h1, e], ?_, ?_⟩
  · rw [alloc_setRow]; exact h.more t vs
  · exact grown_own _ _ _
theorem Loc.newO (h : Loc B w0 w L) (ty : TyO t) (z v : Value) (h1 : v.oneCell' = true) (hv : v.cells = #[v]) :
    ∃ g w', w.heap.size = g ∧ (stT t (.pointer (some ⟨g, 0, none⟩)) v).run Tryz.prog (w.alloc (.cells #[z] t)) = .ok () w' ∧ Loc B w0 w' (L ++ [(g, t, #[v])]) ∧ w.grownBy w' none := by
  refine ⟨_, _, rfl, by rw [run_stO ty (Cells.made w t #[z]) 0 (by simp) v h1 hv], ?_, ?_⟩
  · rw [show (#[z].toList.take 0 ++ [v] ++ #[z].toList.drop (0 + 1)).toArray = #[v] from rfl, alloc_setRow]; exact h.more t #[v]
  · exact grown_own _ _ _
theorem Loc.one (w : World) (t : TypeId) (cs : Array Value) : Loc w.heap.size w (w.alloc (.cells cs t)) [(w.heap.size, t, cs)] := (Loc.nil (Nat.le_refl _)).more t cs
theorem Loc.two (w : World) (t t' : TypeId) (cs cs' : Array Value) : Loc w.heap.size w ((w.alloc (.cells cs t)).alloc (.cells cs' t')) [(w.heap.size, t, cs), (w.heap.size + 1, t', cs')] := by
  have := (Loc.one w t cs).more t' cs'
  rwa [show (w.alloc (.cells cs t)).heap.size = w.heap.size + 1 by simp] at this
end
theorem ty_pair : TyA 40 2 := tya_array Tryz.underlying40 (by kernel_rfl)
theorem ty_u8 : TyO 5 := tyo_of Tryz.underlying5 rfl (by kernel_rfl)
theorem ty_u64 : TyO 37 := tyo_of Tryz.underlying37 rfl (by kernel_rfl)
theorem ty_bool : TyO 4 := tyo_of Tryz.underlying4 rfl (by kernel_rfl)
theorem ty_input : TyO 38 := tyo_of Tryz.underlying38 rfl (by kernel_rfl)
theorem ld_pair (v : Value) : Instr.loadAt 40 v = ldT 40 v := rfl
theorem ld_u8 (v : Value) : Instr.loadAt 5 v = ldT 5 v := rfl
theorem ld_u64 (v : Value) : Instr.loadAt 37 v = ldT 37 v := rfl
theorem ld_bool (v : Value) : Instr.loadAt 4 v = ldT 4 v := rfl
theorem ld_input (v : Value) : Instr.loadAt 38 v = ldT 38 v := rfl
theorem st_input (p v : Value) : Instr.storeAt 38 p v = stT 38 p v := rfl
theorem ty_int : TyO 3 := tyo_of Tryz.underlying3 rfl (by kernel_rfl)
theorem ld_int (v : Value) : Instr.loadAt 3 v = ldT 3 v := rfl
theorem st_u8 (p v : Value) : Instr.storeAt 5 p v = stT 5 p v := rfl
theorem st_u64 (p v : Value) : Instr.storeAt 37 p v = stT 37 p v := rfl
theorem st_bool (p v : Value) : Instr.storeAt 4 p v = stT 4 p v := rfl
end Go.Proofs.YtgeaacabpnepmaaGreatDoor
