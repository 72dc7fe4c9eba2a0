/- Take: the state that bytes are: its contract. -/
import Derived.Test.YtbmkmmkebophpaaDoorSj
import Derived.Laws.CopyRow
import Derived.Laws.CopyOwn
import Derived.Shelf.Spec.SlicesInsert
import Derived.Deep.RegionLaw
namespace Go.Proofs.YtbmkmmkebophpaaDoor
open Go.RowKit
set_option linter.unusedVariables false

/-- A state laid down whole. -/
def storeState (p v : Value) : Sem Unit := Instr.storeAt 30 p v
theorem storeAt_state (p v : Value) : Instr.storeAt 30 p v = storeState p v := rfl
theorem info_StSz : (Tryd.prog.info? 30).map (·.size) = some 19 := by kernel_rfl
theorem run_storeState {w : World} {g : Nat} {t : TypeId} {old cs : Array Value} (h : Cells w g t old) (ho : old.size = 19) (hc : cs.size = 19) (h1 : ∀ v ∈ cs.toList, v.oneCell' = true) :
    (storeState (.pointer (some ⟨g, 0, none⟩)) (.agg cs)).run Tryd.prog w = .ok () (w.setRow g cs) := by
  have hst := run_storeCells_at Tryd.prog g 0 t cs.toList 0 old w h (by simp [ho, hc]) h1
  have e0 : (old.toList.take (0 + 0) ++ cs.toList ++ old.toList.drop (0 + 0 + cs.toList.length)).toArray = cs := by
    rw [show cs.toList.length = 19 from by simpa using hc, List.drop_of_length_le (by simp [ho])]; simp
  rw [e0] at hst
  cases hq : Tryd.prog.info? 30 with
  | none => have := info_StSz; rw [hq] at this; simp at this
  | some i =>
    have hi : i.size = 19 := by have := info_StSz; rw [hq] at this; simpa using this
    simp [storeState, Instr.storeAt, Instr.sureAddr, storeVar, sizeOf, typeInfo, hq, hi, Value.cells, hc, hst]
attribute [local go_sem ↓] loadAt_state storeAt_state
attribute [local go_sem] run_loadState rowOf_new rowOf_old rowOf_drew rowOf_drewN
abbrev zst : Array Value := stc .zero none 0
theorem hall_at : ∀ (l : List Sh) (k : Nat) (hk : k < l.length) (i : Nat) (v : Value), (Hcs (l[k]'hk))[i]? = some v → (Hall l)[k * 6 + i]? = some v
  | a :: l, 0, _, i, v, hv => by
    have hi : i < 6 := by
      rcases Nat.lt_or_ge i 6 with h1 | h1
      · exact h1
      · rw [List.getElem?_eq_none (by simpa [Hcs] using h1)] at hv; cases hv
    simp only [Hall, List.flatMap_cons]
    rw [List.getElem?_append_left (by simp [Hcs]; omega)]
    simpa using hv
  | a :: l, k + 1, hk, i, v, hv => by
    have ih := hall_at l k (by simpa using hk) i v hv
    simp only [Hall, List.flatMap_cons]
    rw [List.getElem?_append_right (by simp [Hcs]; omega)]
    simp only [Hcs, List.length_cons, List.length_nil]
    rw [show (k + 1) * 6 + i - (0 + 1 + 1 + 1 + 1 + 1 + 1) = k * 6 + i from by omega]
    exact ih
/-- Shots that a call owns can be read. -/
theorem shs_own {w : World} {B n : Nat} {ao : Option Addr} {cap : Nat} {l : List Sh} (h : w.ownsRow B 46 6 (.slice ao n cap) n (Hall l)) (hl : l.length = n) (hf : ∀ x ∈ l, x.fit) : Shs w ao l := fun k hk => by
  refine ⟨hf _ (List.getElem_mem hk), ?_⟩
  rcases h.2 with ⟨_, h0⟩ | ⟨g, cap', cur, he, _⟩
  · omega
  · injection he with e1 e2 e3
    subst e1
    refine ⟨g, 0, rfl, fun i v hv => ?_⟩
    have hi : i < 6 := by
      rcases Nat.lt_or_ge i 6 with h1 | h1
      · exact h1
      · rw [List.getElem?_eq_none (by simpa using h1)] at hv; cases hv
    have hx : (Hall l)[k * 6 + i]? = some v := hall_at l k hk i v hv
    have := World.ownsRow.cells h (g := g) rfl (k * 6 + i) v hx
    have e : (⟨g, 0, none⟩ : Addr).add (k * 6 + i) = ⟨g, 0 + k * 6 + i, none⟩ := by unfold Addr.add; split <;> simp_all
    rwa [e] at this
section
variable {w : World} {g : Nat} {s : St} {ao : Option Addr} {cap : Nat}
theorem bk_set0 (h : Bk w g s ao cap) (n : Nat) : Bk (w.setCell ⟨g, 0, none⟩ (.int .u64 (n : Int))) g { s with fr := n } ao cap := by
  have := Cells.set h 0 (.int .u64 (n : Int)); simpa [Bk] using this
theorem bk_set1 (h : Bk w g s ao cap) (n : Nat) : Bk (w.setCell ⟨g, 1, none⟩ (.int .u64 (n : Int))) g { s with sd := n } ao cap := by
  have := Cells.set h 1 (.int .u64 (n : Int)); simpa [Bk] using this
theorem bk_set16 (h : Bk w g s ao cap) (l : List Sh) (n : Nat) (hl : l.length = n) (a : Option Addr) (c : Nat) : Bk (w.setCell ⟨g, 16, none⟩ (.slice a n c)) g { s with ss := l } a c := by
  subst hl
  have := Cells.set h 16 (.slice a l.length c); simpa [Bk] using this
theorem bk_set17 (h : Bk w g s ao cap) (n : Nat) : Bk (w.setCell ⟨g, 17, none⟩ (.int .u16 (n : Int))) g { s with s0 := n } ao cap := by
  have := Cells.set h 17 (.int .u16 (n : Int)); simpa [Bk] using this
theorem bk_set18 (h : Bk w g s ao cap) (n : Nat) : Bk (w.setCell ⟨g, 18, none⟩ (.int .u16 (n : Int))) g { s with s1 := n } ao cap := by
  have := Cells.set h 18 (.int .u16 (n : Int)); simpa [Bk] using this
end
theorem info_PlSz : (Tryd.prog.info? 24).map (·.size) = some 7 := by kernel_rfl
/-- Two players laid into a state's block. -/
theorem copy_two {w : World} {g : Nat} {s : St} {ao : Option Addr} {cap : Nat} (h : Bk w g s ao cap) (p q : Pl) (ap : Option Addr) (c n : Nat) (B : Nat) (ty : TypeId) (hown : w.ownsRow B 24 7 (.slice ap 2 c) 2 (Pall [p, q])) :
    ∃ w', (Builtin.copy_ #[52, 52] ty #[.slice (some ⟨g, 2, none⟩) 2 n, .slice ap 2 c]).run Tryd.prog w = .ok (.int .i64 2) w' ∧ Bk w' g { s with p := p, q := q } ao cap ∧ w.grownBy w' (some g) := by
  obtain ⟨b, c', he, _, _⟩ := hown.form (by decide)
  injection he with e1 e2 e3
  subst e1
  have hsrc := World.ownsRow.cells hown (g := b) rfl
  have hlen : (Pall [p, q]).length = 14 := rfl
  have h1 : ∀ v ∈ Pall [p, q], v.oneCell' = true := by simp [Pall, Pcs, Value.oneCell']
  have hl := run_loadCells_list (P := Tryd.prog) w ⟨b, 0, none⟩ (Pall [p, q]) hsrc
  have hst := run_storeCells_at Tryd.prog g 2 _ (Pall [p, q]) 0 (stc s ao cap) w h (by rw [hlen]; show 16 ≤ 19; decide) h1
  rw [hlen] at hl hst
  have e0 : ((stc s ao cap).toList.take (2 + 0) ++ Pall [p, q] ++ (stc s ao cap).toList.drop (2 + 0 + 14)).toArray = stc { s with p := p, q := q } ao cap := rfl
  rw [e0] at hst
  cases hq : Tryd.prog.info? 24 with
  | none => have := info_PlSz; rw [hq] at this; simp at this
  | some i =>
    have hi : i.size = 7 := by have := info_PlSz; rw [hq] at this; simpa using this
    refine ⟨w.setRow g (stc { s with p := p, q := q } ao cap), ?_, setRow_heap w g _ _ _ _ h, ?_⟩
    · simp [Builtin.copy_, run_underlying Tryd.underlying52, Builtin.lenOf, Builtin.firstCells, sizeOf, typeInfo, hq, hi, hl, hst, goInt]
    · exact ⟨rfl, rfl, rfl, by simp [World.setRow], fun k hk hn => setRow_other _ _ _ _ (fun e => hn (by rw [e]))⟩
/-- What a call of Take has at hand: its reader, its state, its result's block. -/
structure TK (w wi : World) (l : List UInt8) (e : Int) (s : St) (ao : Option Addr) (cap : Nat) : Prop where
  rd : Rd wi (w.heap.size + 2) l e
  st : Bk wi (w.heap.size + 1) s ao cap
  re : Bk wi w.heap.size .zero none 0
  be : Below w.heap.size w wi
theorem tk_size {w wi : World} {l : List UInt8} {e : Int} {s : St} {ao : Option Addr} {cap : Nat} (h : TK w wi l e s ao cap) : w.heap.size + 2 < wi.heap.size := h.rd.1.lt
theorem tk_read {w wi wj : World} {l l' : List UInt8} {e e' : Int} {s : St} {ao : Option Addr} {cap : Nat} (h : TK w wi l e s ao cap) (k : RdTo wi (w.heap.size + 2) l' e' wj) : TK w wj l' e' s ao cap :=
  ⟨k.1, bk_grown h.st k.2 (by simp), bk_grown h.re k.2 (by simp), h.be.trans (grown_nb k.2 (fun q e => by cases e; omega) (by have := tk_size h; omega))⟩
theorem tk_grown {w wi wj : World} {l : List UInt8} {e : Int} {s : St} {ao : Option Addr} {cap : Nat} (h : TK w wi l e s ao cap) (k : wi.grownBy wj none) : TK w wj l e s ao cap :=
  ⟨rd_on h.rd k, bk_grown h.st k (by simp), bk_grown h.re k (by simp), h.be.trans ((below_of_grown k).mono (by have := tk_size h; omega))⟩
theorem tk_set {w wi : World} {l : List UInt8} {e : Int} {s s' : St} {ao ao' : Option Addr} {cap cap' i : Nat} {v : Value} (h : TK w wi l e s ao cap) (k : Bk (wi.setCell ⟨w.heap.size + 1, i, none⟩ v) (w.heap.size + 1) s' ao' cap') : TK w (wi.setCell ⟨w.heap.size + 1, i, none⟩ v) l e s' ao' cap' :=
  ⟨⟨h.rd.1.far (by simp) _, h.rd.2⟩, k, Cells.far h.re (by simp) _, h.be.setCell (by simp) _⟩
theorem tk_copy {w wi wj : World} {l : List UInt8} {e : Int} {s s' : St} {ao ao' : Option Addr} {cap cap' : Nat} (h : TK w wi l e s ao cap) (k : Bk wj (w.heap.size + 1) s' ao' cap') (g : wi.grownBy wj (some (w.heap.size + 1))) : TK w wj l e s' ao' cap' :=
  ⟨⟨h.rd.1.grown g (by simp), h.rd.2⟩, k, bk_grown h.re g (by simp), h.be.trans (grown_nb g (fun q e => by cases e; omega) (by have := tk_size h; omega))⟩
theorem st_frozen {w wi : World} {l : List UInt8} {e : Int} {s : St} {ao : Option Addr} {cap : Nat} (h : TK w wi l e s ao cap) (i : Nat) : wi.frozen? ⟨w.heap.size + 1, i, none⟩ = false := Cells.frozen h.st i
theorem shut_two {W : World} {g : Nat} {cs : Array Value} (tmps : Array Value) (e : Int) (fn : Func) (hr : fn.results = #[.cell 2 30, .tmp 3]) (h : Cells W g 30 cs) (hs : cs.size = 19) (h2 : tmps.getD 2 undef = .pointer (some ⟨g, 0, none⟩)) (h3 : tmps.getD 3 undef = .int .i64 e) :
    (results fn tmps).run Tryd.prog W = .ok (.tuple #[.agg cs, .int .i64 e]) W := by
  have hl := load_state W g (by rw [rowOf_cells h, hs])
  rw [rowOf_cells h] at hl
  have h2' : tmps[2]?.getD undef = .pointer (some ⟨g, 0, none⟩) := by simpa using h2
  have h3' : tmps[3]?.getD undef = .int .i64 e := by simpa using h3
  simp [results, hr, h2', h3', asAddr, hl]
theorem tst_eq (l : List UInt8) (A B : Got Nat) (P : Got (List (List Nat))) (V : Got Nat) (H : Got (List (List Nat))) (C D : Got Nat) (hA : num 8 l = A) (hB : num 8 A.rest = B) (hP : many (fun _ => pR) 2 0 B.rest = P) (hV : vd 0 P.rest = V)
    (hH : many (fun _ => hR) V.val 0 V.rest = H) (hC : num 2 H.rest = C) (hD : num 2 C.rest = D) :
    tst l = if 8 < V.val then (4, .zero) else if fin (fin (fin (fin (fin (fin (fin 0 A.err) B.err) P.err) V.err) H.err) C.err) D.err ≠ 0 then (fin (fin (fin (fin (fin (fin (fin 0 A.err) B.err) P.err) V.err) H.err) C.err) D.err, .zero)
      else if D.rest ≠ [] ∨ St.good ⟨A.val, B.val, mkP (P.val.getD 0 []), mkP (P.val.getD 1 []), H.val.map mkH, C.val, D.val⟩ = false then (4, .zero)
      else (0, ⟨A.val, B.val, mkP (P.val.getD 0 []), mkP (P.val.getD 1 []), H.val.map mkH, C.val, D.val⟩) := by
  have e1 : many (fun _ => num 8) 2 0 l = ⟨fin A.err B.err, [A.val, B.val], B.rest⟩ := by simp [many, hA, hB, fin_zero]
  have e2 : many (fun _ => num 2) 2 0 H.rest = ⟨fin C.err D.err, [C.val, D.val], D.rest⟩ := by simp [many, hC, hD, fin_zero]
  unfold tst rawR
  simp only [seq, e1, hP, hV, hH, e2, mkS, List.getD_cons_zero, List.getD_cons_succ, fin_fin, fin_of]
theorem grown_drw (w : World) : w.grownBy w.drew none := ⟨rfl, rfl, rfl, Nat.le_refl _, fun _ _ _ => rfl⟩
theorem two_maps {v : List (List Nat)} (h : v.length = 2) : v.map mkP = [mkP (v.getD 0 []), mkP (v.getD 1 [])] := by
  match v, h with
  | [a, b], _ => rfl
theorem many_okM {α : Type} {P : Nat → List UInt8 → Got α} {ok : Nat → α → Prop} (h : ∀ i l, ok i (P i l).val) : ∀ (m i : Nat) (l : List UInt8), okM ok m i (many P m i l).val
  | 0, _, _ => rfl
  | m + 1, i, l => ⟨_, _, rfl, h i l, many_okM h m (i + 1) _⟩
theorem kept_shots {w w' : World} {B n r : Nat} {v : Value} {xs : List Value} (h : w.ownsRow B 46 6 v n xs) (hb : w.grownBy w' (some r)) (hr : r < B) : w'.ownsRow B 46 6 v n xs := kept_row h hb hr
/-- Where Take stands among the scores. -/
def Tsc (w wr : World) (B : Nat) (s : St) (ao : Option Addr) (cap : Nat) (l2 l3 l4 : List UInt8) (e2 e3 e4 : Int) (c d : Nat) (v : Value) : Prop :=
  (v = .int .i64 (0 : Nat) ∧ TK w wr l2 e2 s ao cap) ∨ (v = .int .i64 (1 : Nat) ∧ TK w wr l3 e3 { s with s0 := c } ao cap) ∨ (v = .int .i64 (2 : Nat) ∧ TK w wr l4 e4 { s with s0 := c, s1 := d } ao cap)
theorem grown_setRow (w : World) (g : Nat) (cs : Array Value) : w.grownBy (w.setRow g cs) (some g) := ⟨rfl, rfl, rfl, by simp, fun k hk hn => setRow_other _ _ _ _ (fun e => hn (by rw [e]))⟩
theorem owns_less {w : World} {B B' : Nat} {e : TypeId} {size n : Nat} {v : Value} {xs : List Value} (h : w.ownsRow B e size v n xs) (hB : B' ≤ B) : w.ownsRow B' e size v n xs := by
  refine ⟨h.1, ?_⟩
  rcases h.2 with h | ⟨g, cap, cur, h1, h2, h3⟩
  · exact .inl h
  · exact .inr ⟨g, cap, cur, h1, Nat.le_trans hB h2, h3⟩
theorem two_of {α : Type} {l : List α} (h : l.length = 2) : ∃ a b, l = [a, b] := by
  match l, h with
  | [a, b], _ => exact ⟨a, b, rfl⟩
/-- What Take answers of l. -/
def TkPost (l : List UInt8) (w : World) (E : Ending) (w' : World) : Prop := ∃ ao cap, E = .returned (.tuple #[sv (tst l).2 ao cap, .int .i64 (tst l).1]) ∧ w'.ownsRow w.heap.size 46 6 (.slice ao (tst l).2.ss.length cap) (tst l).2.ss.length (Hall (tst l).2.ss) ∧ w.grownBy w' none
theorem q_bad {l : List UInt8} {w : World} {Q : Ending → World → Prop} (HQ : Hid (∀ E w', TkPost l w E w' → Q E w')) {c : Int} (he : tst l = (c, .zero)) :
    Hid (∀ w', w.grownBy w' none → Q (.returned (.tuple #[.agg (stc .zero none 0), .int .i64 c])) w') := fun w' h =>
  HQ.out _ _ ⟨none, 0, by rw [he], by rw [he]; exact World.ownsRow_nil _ _ _ _, h⟩
theorem q_good {l : List UInt8} {w : World} {Q : Ending → World → Prop} (HQ : Hid (∀ E w', TkPost l w E w' → Q E w')) {s : St} {n : Nat} {sh : List Sh} (he : tst l = (0, s)) (hs : s.ss = sh) (hn : sh.length = n) :
    Hid (∀ w' ao cap, w.grownBy w' none → w'.ownsRow w.heap.size 46 6 (.slice ao n cap) n (Hall sh) → Q (.returned (.tuple #[.agg (stc s ao cap), .int .i64 0])) w') := fun w' ao cap h1 h2 => by
  subst hs hn
  exact HQ.out _ _ ⟨ao, cap, by rw [he], by rw [he]; exact h2, h1⟩
set_option maxHeartbeats 2000000 in
set_option maxRecDepth 20000 in
theorem stTakeQ (l : List UInt8) (w : World) (hl : l.length ≤ 1099511627776) (ht : Tab w) (Q : Ending → World → Prop) (HQ : Hid (∀ E w', TkPost l w E w' → Q E w')) :
    Calls Tryd.prog 18 #[.string (str l)] w Q := by
  have HT := Lib.hid ht
  have hN := rdNew l ((w.alloc (.cells zst 30)).alloc (.cells zst 30)) hl
  have hB0 : Bk ((w.alloc (.cells zst 30)).alloc (.cells zst 30)) w.heap.size .zero none 0 := heap_alloc2_old w _ _
  have hB1 : Bk ((w.alloc (.cells zst 30)).alloc (.cells zst 30)) (w.heap.size + 1) .zero none 0 := heap_alloc2_new w _ _
  have HB0 := Lib.hid hB0
  have HB1 := Lib.hid hB1
  clear hB0 hB1 ht
  go_enter Tryd.func18, Tryd.ntmps18
  go_wp2_with fail
  refine hN.mono ?_
  rintro E w1 ⟨rfl, hr1, hg1, hs1⟩
  have HK1 : Hid (TK w w1 l 0 .zero none 0) := by
    have e2 : ((w.alloc (.cells zst 30)).alloc (.cells zst 30)).heap.size = w.heap.size + 2 := by simp
    rw [e2] at hr1
    exact ⟨hr1, bk_grown HB1.out hg1 (by simp), bk_grown HB0.out hg1 (by simp), (((Below.refl _ w).alloc (Nat.le_refl _) _).alloc (by simp) _).trans ((below_of_grown hg1).mono (by simp; omega))⟩
  clear hr1 hg1 hs1 HB0 HB1 hN hl
  go_wp2_with fail
  refine (rdU64 _ _ _ _ HK1.out.rd).mono ?_
  rintro E w2 ⟨rfl, hr2⟩
  have HK2 := Lib.hid (tk_read HK1.out hr2)
  clear hr2 HK1
  go_wp2_with fail
  refine (rdU64 _ _ _ _ HK2.out.rd).mono ?_
  rintro E w3 ⟨rfl, hr3⟩
  have HK3 := Lib.hid (tk_read HK2.out hr3)
  clear hr3 HK2
  have c0 := HK3.out.st.of 0 _ rfl
  have c1 := HK3.out.st.of 1 _ rfl
  have f0 := st_frozen HK3.out 0
  have f1 := st_frozen HK3.out 1
  generalize hA : num 8 l = A at *
  generalize hB : num 8 A.rest = B at *
  have hA := Lib.hid hA
  have hB := Lib.hid hB
  go_upto_region 4 with fail
  have HK4 : Hid (TK w ((w3.setCell ⟨w.heap.size + 1, 0, none⟩ (.int .u64 (A.val : Int))).setCell ⟨w.heap.size + 1, 1, none⟩ (.int .u64 (B.val : Int))) B.rest (fin (fin 0 A.err) B.err) ⟨A.val, B.val, St.zero.p, St.zero.q, [], 0, 0⟩ none 0) :=
    tk_set (tk_set HK3.out (bk_set0 HK3.out.st _)) (bk_set1 (tk_set HK3.out (bk_set0 HK3.out.st _)).st _)
  clear c0 c1 f0 f1 HK3
  generalize (w3.setCell ⟨w.heap.size + 1, 0, none⟩ (.int .u64 (A.val : Int))).setCell ⟨w.heap.size + 1, 1, none⟩ (.int .u64 (B.val : Int)) = wz at *
  have hlen := many_len (fun _ => pR) 2 0 B.rest
  have HTP := Lib.hid (takePl (w.heap.size + 2) 2 B.rest _ wz.drew (tk_grown HK4.out (grown_drw _)).rd (by decide))
  generalize hP : many (fun _ => pR) 2 0 B.rest = P at *
  have hP := Lib.hid hP
  have HPM := Lib.hid (two_maps hlen)
  clear hlen
  go_cut [] (fun wx => TK w wx P.rest (fin (fin (fin 0 A.err) B.err) P.err) ⟨A.val, B.val, mkP (P.val.getD 0 []), mkP (P.val.getD 1 []), [], 0, 0⟩ none 0)
  case first =>
    go_region_law (first | (go_simp; go_at_call 42; refine HTP.out.mono ?_; rintro E w5 ⟨ao, cap, rfl, ho5, hr5⟩; have k5 := tk_read (tk_grown HK4.out (grown_drw _)) hr5; rw [HPM.out] at ho5; obtain ⟨w6, hc6, hb6, hg6⟩ := copy_two k5.st (mkP (P.val.getD 0 [])) (mkP (P.val.getD 1 [])) ao cap 2 _ 3 ho5; have k6 := Lib.hid (tk_copy k5 hb6 hg6); clear ho5 hr5 k5 hb6 hg6) | (refine step_copy_runI rfl (.tmp 18) (.tmp 20) 52 52 rfl _ _ (by simp [Act.eval]) (by simp [Act.eval]) hc6 ?_))
    go_wp2_with fail
    all_goals go_meet
    all_goals exact k6.out
  case rest =>
  have HK := Lib.hid hcut
  clear hcut HTP HPM HK4
  go_wp2_with fail
  refine (rdVar _ _ _ _ HK.out.rd).mono ?_
  rintro E w6 ⟨rfl, hr6⟩
  have HK6 := Lib.hid (tk_read HK.out hr6)
  clear hr6 HK
  generalize hV : vd 0 P.rest = V at *
  have hV := Lib.hid hV
  by_cases h8 : 8 < V.val
  · have hd8 : decide ((8 : Int) < (V.val : Int)) = true := decide_eq_true (by omega)
    have hst := run_storeState (cs := #[.int .u64 0, .int .u64 0, .int .i32 0, .int .i32 0, .int .i32 0, .int .i32 0, .int .u8 0, .int .u8 0, .int .u8 0, .int .i32 0, .int .i32 0, .int .i32 0, .int .i32 0, .int .u8 0, .int .u8 0, .int .u8 0, .slice none 0 0, .int .u16 0, .int .u16 0]) HK6.out.re rfl rfl (by simp [Value.oneCell'])
    have he := tst_eq l A B P V _ _ _ hA.out hB.out hP.out hV.out rfl rfl rfl
    rw [if_pos h8] at he
    have HE := q_bad HQ he
    clear he
    go_wp2
    have HR := setRow_heap w6 w.heap.size _ (stc .zero none 0) _ _ HK6.out.re
    refine bodyPost_ret (shut_two _ 4 _ Tryd.results18 HR rfl rfl rfl) rfl ?_
    exact HE.out _ (grown_of_below (below_setRow HK6.out.be (Nat.le_refl _) _))
  · have hd8 : decide ((8 : Int) < (V.val : Int)) = false := decide_eq_false (by omega)
    have HTS := Lib.hid (takeSh (w.heap.size + 2) V.val V.rest _ w6 HK6.out.rd (by omega))
    have hlen := many_len (fun _ => hR) V.val 0 V.rest
    have hokH := many_okM (P := fun _ => hR) (ok := fun _ => okM okN 6 0) (fun _ l => many_lt 6 0 l) V.val 0 V.rest
    generalize hH : many (fun _ => hR) V.val 0 V.rest = H at *
    have hH := Lib.hid hH
    obtain ⟨_, hml, hfit⟩ := raws_maps _ _ _ hokH
    have hmm : (H.val.map mkH).length = V.val := by rw [List.length_map, hlen]
    have HFIT := Lib.hid hfit
    have HMM := Lib.hid hmm
    have hok2 := many_okM (P := fun _ => pR) (ok := fun _ => okM okN 7 0) (fun _ l => many_lt 7 0 l) 2 0 B.rest
    rw [hP.out] at hok2
    have HPF : Hid ((mkP (P.val.getD 0 [])).fit ∧ (mkP (P.val.getD 1 [])).fit) := by
      obtain ⟨a, r, e, h1, b, r2, e2, h2, _⟩ := hok2
      rw [e, e2]
      exact ⟨(raw_mkP h1).2, (raw_mkP h2).2⟩
    have HAB : Hid (A.val < 18446744073709551616 ∧ B.val < 18446744073709551616) := by
      have h1 := num_lt 8 l
      have h2 := num_lt 8 A.rest
      rw [hA.out] at h1
      rw [hB.out] at h2
      exact ⟨by simpa using h1, by simpa using h2⟩
    clear hlen hokH hml hfit hmm hok2
    generalize hsh : H.val.map mkH = sh at *
    have hsh := Lib.hid hsh
    go_wp2_with fail
    refine HTS.out.mono ?_
    rintro E w7 ⟨ao, cap, rfl, ho7, hr7⟩
    have HK7 := Lib.hid (tk_read HK6.out hr7)
    have hB2 := tk_size HK6.out
    have HO7 := Lib.hid ho7
    clear hr7 ho7 HTS HK6
    have c16 := HK7.out.st.of 16 _ rfl
    have f16 := st_frozen HK7.out 16
    go_wp2
    have HK8 : Hid (TK w (w7.setCell ⟨w.heap.size + 1, 16, none⟩ (.slice ao V.val cap)) H.rest (fin (fin (fin (fin (fin 0 A.err) B.err) P.err) V.err) H.err) ⟨A.val, B.val, mkP (P.val.getD 0 []), mkP (P.val.getD 1 []), sh, 0, 0⟩ ao cap) :=
      tk_set HK7.out (bk_set16 HK7.out.st sh V.val HMM.out ao cap)
    have HO8 := Lib.hid (ownsRow_setCell_below HO7.out (a := ⟨w.heap.size + 1, 16, none⟩) (by show w.heap.size + 1 < w6.heap.size; omega) (.slice ao V.val cap))
    clear c16 f16 HK7 HO7
    generalize w7.setCell ⟨w.heap.size + 1, 16, none⟩ (.slice ao V.val cap) = w8 at *
    generalize hC : num 2 H.rest = C at *
    have hC := Lib.hid hC
    generalize hD : num 2 C.rest = D at *
    have hD := Lib.hid hD
    go_loopw [31] (fun v wr => Hid (Tsc w wr w6.heap.size ⟨A.val, B.val, mkP (P.val.getD 0 []), mkP (P.val.getD 1 []), sh, 0, 0⟩ ao cap H.rest C.rest D.rest (fin (fin (fin (fin (fin 0 A.err) B.err) P.err) V.err) H.err) (fin (fin (fin (fin (fin (fin 0 A.err) B.err) P.err) V.err) H.err) C.err) (fin (fin (fin (fin (fin (fin (fin 0 A.err) B.err) P.err) V.err) H.err) C.err) D.err) C.val D.val v) ∧ Hid (wr.ownsRow w6.heap.size 46 6 (.slice ao V.val cap) V.val (Hall sh))) (fun v _ => 2 - (intOf v).toNat)
    case atStart => exact ⟨.inl ⟨rfl, HK8.out⟩, HO8⟩
    case round =>
      obtain ⟨HTc, HO9⟩ := hrel
      rcases HTc.out with ⟨rfl, hk⟩ | ⟨rfl, hk⟩ | ⟨rfl, hk⟩
      · have HK := Lib.hid hk
        clear hk
        go_wp2_with fail
        refine (rdU16 _ _ _ _ HK.out.rd).mono ?_
        rintro E w9 ⟨rfl, hr9⟩
        rw [hC.out] at hr9
        rw [hC.out]
        have HKa := Lib.hid (tk_read HK.out hr9)
        have HOa := Lib.hid (kept_shots HO9.out hr9.2 hB2)
        clear hr9
        have c17 := HKa.out.st.of 17 _ rfl
        have f17 := st_frozen HKa.out 17
        go_wp2
        go_roundw
        case rel => exact ⟨.inr (.inl ⟨by go_num, tk_set HKa.out (bk_set17 HKa.out.st _)⟩), ownsRow_setCell_below HOa.out (a := ⟨w.heap.size + 1, 17, none⟩) (by show w.heap.size + 1 < w6.heap.size; omega) _⟩
        case measure => simp [intOf]
      · have HK := Lib.hid hk
        clear hk
        go_wp2_with fail
        refine (rdU16 _ _ _ _ HK.out.rd).mono ?_
        rintro E w9 ⟨rfl, hr9⟩
        rw [hD.out] at hr9
        rw [hD.out]
        have HKa := Lib.hid (tk_read HK.out hr9)
        have HOa := Lib.hid (kept_shots HO9.out hr9.2 hB2)
        clear hr9
        have c18 := HKa.out.st.of 18 _ rfl
        have f18 := st_frozen HKa.out 18
        go_wp2
        go_roundw
        case rel => exact ⟨.inr (.inr ⟨by go_num, tk_set HKa.out (bk_set18 HKa.out.st _)⟩), ownsRow_setCell_below HOa.out (a := ⟨w.heap.size + 1, 18, none⟩) (by show w.heap.size + 1 < w6.heap.size; omega) _⟩
        case measure => simp [intOf]
      · have HK := Lib.hid hk
        have he := tst_eq l A B P V H C D hA.out hB.out hP.out hV.out hH.out hC.out hD.out
        rw [if_neg h8, hsh.out] at he
        clear hk
        go_wp2_with fail
        refine (rdErr _ _ _ _ HK.out.rd).mono ?_
        rintro E w9 ⟨rfl, rfl⟩
        generalize hee : fin (fin (fin (fin (fin (fin (fin 0 A.err) B.err) P.err) V.err) H.err) C.err) D.err = ee at *
        by_cases h0 : ee = 0
        · rw [h0] at hee
          rw [if_neg (not_not_intro h0)] at he
          have hq0 : (ee == 0) = true := beq_iff_eq.2 h0
          clear hee
          by_cases hr0 : D.rest = []
          · have hemp : (str []).toList.isEmpty = true := by rw [ByteArray.toList_eq, str_data]; rfl
            have HFS : Hid (St.fit ⟨A.val, B.val, mkP (P.val.getD 0 []), mkP (P.val.getD 1 []), sh, C.val, D.val⟩) :=
              ⟨HAB.out.1, HAB.out.2, HPF.out.1, HPF.out.2, HFIT.out, by have := num_lt 2 H.rest; rw [hC.out] at this; simpa using this, by have := num_lt 2 C.rest; rw [hD.out] at this; simpa using this⟩
            have HSS := Lib.hid (shs_own HO9.out HMM.out HFIT.out)
            have HSH : Hid (St.ss ⟨A.val, B.val, mkP (P.val.getD 0 []), mkP (P.val.getD 1 []), sh, C.val, D.val⟩ = sh) := rfl
            generalize (⟨A.val, B.val, mkP (P.val.getD 0 []), mkP (P.val.getD 1 []), sh, C.val, D.val⟩ : St) = s at *
            have hrow : rowOf wr (w.heap.size + 1) = stc s ao cap := rowOf_cells HK.out.st
            have hlen : s.ss.length = V.val := by rw [HSH.out]; exact HMM.out
            have hch := check_c s ao cap wr (by rw [HSH.out]; exact HSS.out) HFS.out (tab_below HT.out HK.out.be HT.out.1)
            rw [stc, hlen] at hrow
            rw [sv, stc, hlen] at hch
            cases hgd : s.good
            · rw [if_pos (.inr hgd)] at he
              have HE := q_bad HQ he
              rw [chk_no hgd] at hch
              have HCH := Lib.hid hch
              clear he hgd hch hlen h0
              go_wp2_with fail
              refine (rdRest _ _ _ _ HK.out.rd).mono ?_
              rintro E w10 ⟨rfl, rfl⟩
              go_wp2_with fail
              refine HCH.out.mono ?_
              rintro E w11 ⟨rfl, hb11⟩
              have HKb := Lib.hid (tk_grown HK.out hb11)
              have hst := run_storeState (cs := #[.int .u64 0, .int .u64 0, .int .i32 0, .int .i32 0, .int .i32 0, .int .i32 0, .int .u8 0, .int .u8 0, .int .u8 0, .int .i32 0, .int .i32 0, .int .i32 0, .int .i32 0, .int .u8 0, .int .u8 0, .int .u8 0, .slice none 0 0, .int .u16 0, .int .u16 0]) HKb.out.re rfl rfl (by simp [Value.oneCell'])
              clear hb11 hrow
              go_wp2
              have HR := setRow_heap w11 w.heap.size _ (stc .zero none 0) _ _ HKb.out.re
              refine bodyPost_ret (shut_two _ 4 _ Tryd.results18 HR rfl rfl rfl) rfl ?_
              exact HE.out _ (grown_of_below (below_setRow HKb.out.be (Nat.le_refl _) _))
            · rw [if_neg (by rintro (h | h); exact h hr0; rw [hgd] at h; cases h)] at he
              have HE := q_good HQ he HSH.out HMM.out
              rw [chk_yes hgd] at hch
              have HCH := Lib.hid hch
              clear he hgd hch h0
              go_wp2_with fail
              refine (rdRest _ _ _ _ HK.out.rd).mono ?_
              rintro E w10 ⟨rfl, rfl⟩
              go_wp2_with fail
              refine HCH.out.mono ?_
              rintro E w11 ⟨rfl, hb11⟩
              have HKb := Lib.hid (tk_grown HK.out hb11)
              have HOb := Lib.hid (World.ownsRow.kept HO9.out hb11 (Classical.em _))
              clear hb11 hrow
              have hrow2 : rowOf w11 (w.heap.size + 1) = stc s ao cap := rowOf_cells HKb.out.st
              rw [stc, hlen] at hrow2
              have hst := run_storeState (cs := #[.int .u64 (s.fr : Int), .int .u64 (s.sd : Int), .int .i32 s.p.x, .int .i32 s.p.y, .int .i32 s.p.vx, .int .i32 s.p.vy, .int .u8 (s.p.h : Int), .int .u8 (s.p.c : Int), .int .u8 (s.p.f : Int), .int .i32 s.q.x, .int .i32 s.q.y, .int .i32 s.q.vx, .int .i32 s.q.vy, .int .u8 (s.q.h : Int), .int .u8 (s.q.c : Int), .int .u8 (s.q.f : Int), .slice ao V.val cap, .int .u16 (s.s0 : Int), .int .u16 (s.s1 : Int)]) HKb.out.re rfl rfl (by simp [Value.oneCell'])
              have HLEN := Lib.hid hlen
              clear hlen
              go_wp2
              have HR := setRow_heap w11 w.heap.size _ (#[.int .u64 (s.fr : Int), .int .u64 (s.sd : Int), .int .i32 s.p.x, .int .i32 s.p.y, .int .i32 s.p.vx, .int .i32 s.p.vy, .int .u8 (s.p.h : Int), .int .u8 (s.p.c : Int), .int .u8 (s.p.f : Int), .int .i32 s.q.x, .int .i32 s.q.y, .int .i32 s.q.vx, .int .i32 s.q.vy, .int .u8 (s.q.h : Int), .int .u8 (s.q.c : Int), .int .u8 (s.q.f : Int), .slice ao V.val cap, .int .u16 (s.s0 : Int), .int .u16 (s.s1 : Int)]) _ _ HKb.out.re
              refine bodyPost_ret (shut_two _ 0 _ Tryd.results18 HR rfl rfl rfl) rfl ?_
              have HE2 := HE.out
              simp only [stc, HLEN.out] at HE2
              exact HE2 _ ao cap (grown_of_below (below_setRow HKb.out.be (Nat.le_refl _) _)) (owns_less (kept_row HOb.out (grown_setRow _ _ _) (by omega)) (by omega))
          · rw [if_pos (.inl hr0)] at he
            have HE := q_bad HQ he
            have hemp : (str D.rest).toList.isEmpty = false := by
              rw [ByteArray.toList_eq, str_data]
              cases hdd : D.rest
              · exact absurd hdd hr0
              · rfl
            clear he hr0 h0
            go_wp2_with fail
            refine (rdRest _ _ _ _ HK.out.rd).mono ?_
            rintro E w10 ⟨rfl, rfl⟩
            have hst := run_storeState (cs := #[.int .u64 0, .int .u64 0, .int .i32 0, .int .i32 0, .int .i32 0, .int .i32 0, .int .u8 0, .int .u8 0, .int .u8 0, .int .i32 0, .int .i32 0, .int .i32 0, .int .i32 0, .int .u8 0, .int .u8 0, .int .u8 0, .slice none 0 0, .int .u16 0, .int .u16 0]) HK.out.re rfl rfl (by simp [Value.oneCell'])
            go_wp2
            have HR := setRow_heap wr w.heap.size _ (stc .zero none 0) _ _ HK.out.re
            refine bodyPost_ret (shut_two _ 4 _ Tryd.results18 HR rfl rfl rfl) rfl ?_
            exact HE.out _ (grown_of_below (below_setRow HK.out.be (Nat.le_refl _) _))
        · have hst := run_storeState (cs := #[.int .u64 0, .int .u64 0, .int .i32 0, .int .i32 0, .int .i32 0, .int .i32 0, .int .u8 0, .int .u8 0, .int .u8 0, .int .i32 0, .int .i32 0, .int .i32 0, .int .i32 0, .int .u8 0, .int .u8 0, .int .u8 0, .slice none 0 0, .int .u16 0, .int .u16 0]) HK.out.re rfl rfl (by simp [Value.oneCell'])
          have hq0 : (ee == 0) = false := beq_eq_false_iff_ne.2 h0
          rw [if_pos h0] at he
          have HE := q_bad HQ he
          clear he h0 hee
          go_wp2
          have HR := setRow_heap wr w.heap.size _ (stc .zero none 0) _ _ HK.out.re
          refine bodyPost_ret (shut_two _ ee _ Tryd.results18 HR rfl rfl rfl) rfl ?_
          exact HE.out _ (grown_of_below (below_setRow HK.out.be (Nat.le_refl _) _))
theorem stTake (l : List UInt8) (w : World) (hl : l.length ≤ 1099511627776) (ht : Tab w) : Calls Tryd.prog 18 #[.string (str l)] w (TkPost l w) :=
  stTakeQ l w hl ht _ (fun _ _ h => h)
end Go.Proofs.YtbmkmmkebophpaaDoor
