/- The document's Take: its contract. -/
import Derived.Test.YtacgmadgkmcmoaaGreatDoorAe
import Derived.StillTailTactics
import Derived.Deep.RegionHeld3
import Derived.Deep.DeepCutAuto
namespace Go.Proofs.YtacgmadgkmcmoaaGreatDoor
open Go.RowKit
set_option linter.unusedVariables false
set_option linter.unusedSimpArgs false

/-- A number of 32 bits with a sign, read by the document. -/
theorem refN32 (g : Nat) (l : List UInt8) (e : Int) (w : World) (h : Rf w g l e) :
    Calls Tryz.prog 129 #[.pointer (some ⟨g, 0, none⟩)] w fun E w' => E = .returned (.int .i32 (wrap32 ((num 4 l).val : Int))) ∧ RfTo w g (num 4 l).rest (fin e (num 4 l).err) w' := by
  have H := Lib.hid (refNum g 4 l e w h (by omega) (by omega))
  have hv := num_lt 4 l
  generalize num 4 l = A at *
  have e1 : IntKind.u32.wrap (A.val : Int) = A.val := by simp [IntKind.wrap, IntKind.bits, IntKind.signed]; omega
  clear h hv
  go_enter Tryz.func129, Tryz.ntmps129
  go_wp2_with fail
  refine H.out.mono ?_
  rintro E w1 ⟨rfl, hb⟩
  go_wp2
  go_ret
  exact ⟨rfl, hb⟩
theorem refN1 (g : Nat) (l : List UInt8) (e : Int) (w : World) (h : Rf w g l e) :
    Calls Tryz.prog 128 #[.pointer (some ⟨g, 0, none⟩), .int .i64 1] w fun E w' => E = .returned (.int .u64 ((num 1 l).val : Int)) ∧ RfTo w g (num 1 l).rest (fin e (num 1 l).err) w' := refNum g 1 l e w h (by omega) (by omega)
theorem refN2 (g : Nat) (l : List UInt8) (e : Int) (w : World) (h : Rf w g l e) :
    Calls Tryz.prog 128 #[.pointer (some ⟨g, 0, none⟩), .int .i64 2] w fun E w' => E = .returned (.int .u64 ((num 2 l).val : Int)) ∧ RfTo w g (num 2 l).rest (fin e (num 2 l).err) w' := refNum g 2 l e w h (by omega) (by omega)
theorem refN8 (g : Nat) (l : List UInt8) (e : Int) (w : World) (h : Rf w g l e) :
    Calls Tryz.prog 128 #[.pointer (some ⟨g, 0, none⟩), .int .i64 8] w fun E w' => E = .returned (.int .u64 ((num 8 l).val : Int)) ∧ RfTo w g (num 8 l).rest (fin e (num 8 l).err) w' := refNum g 8 l e w h (by omega) (by omega)
/-- What a call of the document's Take has at hand: its reader, its state, its result's block. -/
structure RK (w wi : World) (l : List UInt8) (e : Int) (s : St) (ao : Option Addr) (cap : Nat) : Prop where
  rd : Rf wi (w.heap.size + 1) l e
  st : Bk wi (w.heap.size + 1 + 1) s ao cap
  re : Bk wi w.heap.size .zero none 0
  be : Below w.heap.size w wi
section
variable {w wi wj : World} {l l' : List UInt8} {e e' : Int} {s s' : St} {ao ao' : Option Addr} {cap cap' : Nat}
theorem rk_size (h : RK w wi l e s ao cap) : w.heap.size + 3 ≤ wi.heap.size := by have := Cells.lt h.st; omega
theorem rk_read (h : RK w wi l e s ao cap) (k : RfTo wi (w.heap.size + 1) l' e' wj) : RK w wj l' e' s ao cap :=
  ⟨k.1, bk_grown h.st k.2 (by simp), bk_grown h.re k.2 (by simp), h.be.trans (grown_nb k.2 (fun q e => by cases e; omega) (by have := rk_size h; omega))⟩
theorem rf_on {g : Nat} {wi wj : World} {r : Option Nat} (h : Rf wi g l e) (k : wi.grownBy wj r) (hr : some g ≠ r) : Rf wj g l e := by
  obtain ⟨S, p, ⟨hc, hh⟩, h0, h1⟩ := h
  exact ⟨S, p, ⟨hc.grown k hr, hh⟩, h0, h1⟩
theorem rk_grown (h : RK w wi l e s ao cap) (k : wi.grownBy wj none) : RK w wj l e s ao cap :=
  ⟨rf_on h.rd k (by simp), bk_grown h.st k (by simp), bk_grown h.re k (by simp), h.be.trans ((below_of_grown k).mono (by have := rk_size h; omega))⟩
theorem rk_grownR {r : Option Nat} (h : RK w wi l e s ao cap) (k : wi.grownBy wj r) (hr : ∀ q, r = some q → w.heap.size + 3 ≤ q) : RK w wj l e s ao cap :=
  ⟨rf_on h.rd k (fun q => by have := hr _ q.symm; omega), bk_grown h.st k (fun q => by have := hr _ q.symm; omega), bk_grown h.re k (fun q => by have := hr _ q.symm; omega), h.be.trans (grown_nb k (fun q e => by have := hr q e; omega) (by have := rk_size h; omega))⟩
theorem rk_far (h : RK w wi l e s ao cap) {P i : Nat} (hP : w.heap.size + 3 ≤ P) (v : Value) : RK w (wi.setCell ⟨P, i, none⟩ v) l e s ao cap :=
  ⟨rf_on h.rd (grown_set wi P i v) (by simp; omega), bk_grown h.st (grown_set wi P i v) (by simp; omega), bk_grown h.re (grown_set wi P i v) (by simp; omega), h.be.setCell (by show w.heap.size ≤ P; omega) _⟩
theorem rk_set {i : Nat} {v : Value} (h : RK w wi l e s ao cap) (k : Bk (wi.setCell ⟨w.heap.size + 1 + 1, i, none⟩ v) (w.heap.size + 1 + 1) s' ao' cap') : RK w (wi.setCell ⟨w.heap.size + 1 + 1, i, none⟩ v) l e s' ao' cap' :=
  ⟨rf_on h.rd (grown_set wi _ i v) (by simp), k, Cells.far h.re (by show w.heap.size ≠ w.heap.size + 1 + 1; omega) _, h.be.setCell (by show w.heap.size ≤ w.heap.size + 1 + 1; omega) _⟩
theorem rk_row (h : RK w wi l e s ao cap) (k : Bk wj (w.heap.size + 1 + 1) s' ao' cap') (g : wi.grownBy wj (some (w.heap.size + 1 + 1))) : RK w wj l e s' ao' cap' :=
  ⟨rf_on h.rd g (by simp), k, bk_grown h.re g (by simp; omega), h.be.trans (grown_nb g (fun q e => by cases e; omega) (by have := rk_size h; omega))⟩
end
theorem u8_own {n : Nat} (h : n < 256) : IntKind.u8.wrap (n : Int) = n := by simp [IntKind.wrap, IntKind.bits, IntKind.signed]; omega
theorem u16_own {n : Nat} (h : n < 65536) : IntKind.u16.wrap (n : Int) = n := by simp [IntKind.wrap, IntKind.bits, IntKind.signed]; omega
theorem rk_start (l : List UInt8) (w : World) (hl : l.length ≤ 1099511627776) : RK w ((((w.alloc (.cells zst 34)).alloc (.cells #[.string (str l), .int .i64 0, .int .i64 0] 181)).alloc (.cells zst 34)).setRow (w.heap.size + 1 + 1) #[.int .u64 0, .int .u64 0, .int .i32 0, .int .i32 0, .int .i32 0, .int .i32 0, .int .u8 0, .int .u8 0, .int .u8 0, .int .i32 0, .int .i32 0, .int .i32 0, .int .i32 0, .int .u8 0, .int .u8 0, .int .u8 0, .slice none 0 0, .int .u16 0, .int .u16 0]) l 0 .zero none 0 := by
  have hst : Bk (((w.alloc (.cells zst 34)).alloc (.cells #[.string (str l), .int .i64 0, .int .i64 0] 181)).alloc (.cells zst 34)) (w.heap.size + 1 + 1) .zero none 0 := by
    have := Cells.made ((w.alloc (.cells zst 34)).alloc (.cells #[.string (str l), .int .i64 0, .int .i64 0] 181)) 34 zst
    rw [show ((w.alloc (.cells zst 34)).alloc (.cells #[.string (str l), .int .i64 0, .int .i64 0] 181)).heap.size = w.heap.size + 1 + 1 by simp] at this
    exact this
  refine ⟨?_, ?_, ?_, ?_⟩
  · refine ⟨l, 0, ⟨?_, by omega, hl⟩, fun _ => by simp, fun h => absurd rfl h⟩
    have := Cells.made (w.alloc (.cells zst 34)) 181 #[.string (str l), .int .i64 0, .int .i64 0]
    rw [show (w.alloc (.cells zst 34)).heap.size = w.heap.size + 1 by simp] at this
    exact cells_far (this.alloc _) (by omega) _
  · exact bk_setRow hst .zero none 0
  · exact cells_far (((Cells.made w _ _).alloc _).alloc _) (by omega) _
  · exact below_setRow ((((Below.refl _ w).alloc (Nat.le_refl _) _).alloc (by simp) _).alloc (by simp; omega) _) (by omega) _
theorem mkP_nil : mkP [] = ⟨0, 0, 0, 0, 0, 0, 0⟩ := by simp [mkP, wrap32]
theorem rk_loop0 {w wi : World} {B : Got Nat} {a b : Nat} {e : Int} (h : RK w wi B.rest e ⟨a, b, St.zero.p, St.zero.q, [], 0, 0⟩ none 0) :
    RK w wi (many (fun _ => pR) 0 0 B.rest).rest (fin e (many (fun _ => pR) 0 0 B.rest).err) ⟨a, b, mkP ((many (fun _ => pR) 0 0 B.rest).val.getD 0 []), mkP ((many (fun _ => pR) 0 0 B.rest).val.getD 1 []), [], 0, 0⟩ none 0 := by
  have e1 : fin e (many (fun _ => pR) 0 0 B.rest).err = e := fin_zero e
  rw [e1]
  have h2 := h
  rw [show St.zero.p = mkP [] from mkP_nil.symm, show St.zero.q = mkP [] from mkP_nil.symm] at h2
  exact h2
theorem rk_loop1 {w wi : World} {B : List UInt8} {a b : Nat} {p q : Pl} {e : Int} (h : RK w wi B e ⟨a, b, p, q, [], 0, 0⟩ none 0) :
    RK w wi (many (fun _ => hR) 0 0 B).rest (fin e (many (fun _ => hR) 0 0 B).err) ⟨a, b, p, q, (many (fun _ => hR) 0 0 B).val.map mkH, 0, 0⟩ none 0 := by
  have e1 : fin e (many (fun _ => hR) 0 0 B).err = e := fin_zero e
  rw [e1]
  exact h
theorem pR_eq {l : List UInt8} {X0 X1 X2 X3 X4 X5 X6 : Got Nat} (h0 : num 4 l = X0) (h1 : num 4 X0.rest = X1) (h2 : num 4 X1.rest = X2) (h3 : num 4 X2.rest = X3) (h4 : num 1 X3.rest = X4) (h5 : num 1 X4.rest = X5) (h6 : num 1 X5.rest = X6) :
    pR l = ⟨fin X0.err (fin X1.err (fin X2.err (fin X3.err (fin X4.err (fin X5.err X6.err))))), [X0.val, X1.val, X2.val, X3.val, X4.val, X5.val, X6.val], X6.rest⟩ := by
  simp [many, wd, h0, h1, h2, h3, h4, h5, h6, fin_zero]
theorem hR_eq {l : List UInt8} {X0 X1 X2 X3 X4 X5 : Got Nat} (h0 : num 4 l = X0) (h1 : num 4 X0.rest = X1) (h2 : num 4 X1.rest = X2) (h3 : num 4 X2.rest = X3) (h4 : num 1 X3.rest = X4) (h5 : num 1 X4.rest = X5) :
    hR l = ⟨fin X0.err (fin X1.err (fin X2.err (fin X3.err (fin X4.err X5.err)))), [X0.val, X1.val, X2.val, X3.val, X4.val, X5.val], X5.rest⟩ := by
  simp [many, wd, h0, h1, h2, h3, h4, h5, fin_zero]
/-- A player laid into a state at his place. -/
theorem put_pl (a b : Nat) (M : List (List Nat)) (k : Nat) (hl : M.length = k) (hk : k < 2) (ao : Option Addr) (cap : Nat) : ∀ x : List Nat,
    ((stc ⟨a, b, mkP (M.getD 0 []), mkP (M.getD 1 []), [], 0, 0⟩ ao cap).toList.take (2 + k * 7) ++ Pcs (mkP x) ++ (stc ⟨a, b, mkP (M.getD 0 []), mkP (M.getD 1 []), [], 0, 0⟩ ao cap).toList.drop (2 + k * 7 + 7)).toArray
      = stc ⟨a, b, mkP ((M ++ [x]).getD 0 []), mkP ((M ++ [x]).getD 1 []), [], 0, 0⟩ ao cap := fun x => by
  match M, k, hl, hk with
  | [], 0, _, _ => rfl
  | [m], 1, _, _ => rfl
theorem fin_stay {e : Int} (h : e ≠ 0) (c : Int) : fin e c = e := if_neg h
theorem fin_ne {a b : Int} (h : fin a b ≠ 0) : a ≠ 0 ∨ b ≠ 0 := by
  by_cases ha : a = 0
  · exact .inr (fun e => h (by rw [ha, e]; rfl))
  · exact .inl ha
theorem rest_nil {α : Type} {P : List UInt8 → Got α} {e : α → List UInt8} {ok : α → Prop} (h : Good P e ok) : (P []).rest = [] :=
  List.eq_nil_of_length_eq_zero (by have := h.len []; simpa using this)
/-- Behind an error the count of shots reads as 0. -/
theorem many_zero {l : List UInt8} {A B V : Got Nat} {P : Got (List (List Nat))} (hA : num 8 l = A) (hB : num 8 A.rest = B) (hP : many (fun _ => pR) 2 0 B.rest = P) (hV : vd 0 P.rest = V)
    (h : fin (fin (fin (fin 0 A.err) B.err) P.err) V.err ≠ 0) : V.val = 0 := by
  have nilV : P.rest = [] → V.val = 0 := fun e => by rw [← hV, e]; rfl
  have nilP : B.rest = [] → V.val = 0 := fun e => nilV (by rw [← hP, e]; exact rest_nil (good_many (fun _ : Nat => good_p) 2 0))
  have nilB : A.rest = [] → V.val = 0 := fun e => nilP (by rw [← hB, e]; exact rest_nil (num_good 8))
  rcases fin_ne h with h | h
  · rcases fin_ne h with h | h
    · rcases fin_ne h with h | h
      · rcases fin_ne h with h | h
        · exact absurd rfl h
        · exact nilB (by rw [← hA] at h ⊢; exact (num_err h).1)
      · exact nilP (by rw [← hB] at h ⊢; exact (num_err h).1)
    · exact nilV (by rw [← hP] at h ⊢; exact (good_many (fun _ : Nat => good_p) 2 0).bad _ h)
  · rw [← hV] at h ⊢; exact (vd_err h).2
theorem tst_early {l : List UInt8} {A B V : Got Nat} {P : Got (List (List Nat))} (hA : num 8 l = A) (hB : num 8 A.rest = B) (hP : many (fun _ => pR) 2 0 B.rest = P) (hV : vd 0 P.rest = V)
    (h : fin (fin (fin (fin 0 A.err) B.err) P.err) V.err ≠ 0) : tst l = (fin (fin (fin (fin 0 A.err) B.err) P.err) V.err, .zero) := by
  have hz := many_zero hA hB hP hV h
  rw [tst_eq l A B P V _ _ _ hA hB hP hV rfl rfl rfl, if_neg (by omega)]
  simp only [fin_stay h]
  rw [if_pos h]
attribute [local go_sem ↓] loadAt_state storeAt_state storeAt_pl
attribute [local go_sem] run_loadState rowOf_new rowOf_old rowOf_drew rowOf_drewN run_storeOk okRow_new okRow_old Value.oneCell' rowOf_own run_storePlNew

set_option maxHeartbeats 2000000 in
set_option maxRecDepth 20000 in
theorem refTakeQ (l : List UInt8) (w : World) (hl : l.length ≤ 1099511627776) (Q : Ending → World → Prop) (HQ : Hid (∀ E w', TkPost l w E w' → Q E w')) :
    Calls Tryz.prog 75 #[.string (str l)] w Q := by
  have HK0 : Hid (RK w ((((w.alloc (.cells #[.int .u64 0, .int .u64 0, .int .i32 0, .int .i32 0, .int .i32 0, .int .i32 0, .int .u8 0, .int .u8 0, .int .u8 0, .int .i32 0, .int .i32 0, .int .i32 0, .int .i32 0, .int .u8 0, .int .u8 0, .int .u8 0, .slice none 0 0, .int .u16 0, .int .u16 0] 34)).alloc (.cells #[.string (str l), .int .i64 0, .int .i64 0] 181)).alloc (.cells #[.int .u64 0, .int .u64 0, .int .i32 0, .int .i32 0, .int .i32 0, .int .i32 0, .int .u8 0, .int .u8 0, .int .u8 0, .int .i32 0, .int .i32 0, .int .i32 0, .int .i32 0, .int .u8 0, .int .u8 0, .int .u8 0, .slice none 0 0, .int .u16 0, .int .u16 0] 34)).setRow (w.heap.size + 1 + 1) #[.int .u64 0, .int .u64 0, .int .i32 0, .int .i32 0, .int .i32 0, .int .i32 0, .int .u8 0, .int .u8 0, .int .u8 0, .int .i32 0, .int .i32 0, .int .i32 0, .int .i32 0, .int .u8 0, .int .u8 0, .int .u8 0, .slice none 0 0, .int .u16 0, .int .u16 0]) l 0 .zero none 0) := rk_start l w hl
  go_enter Tryz.func75, Tryz.ntmps75
  go_upto_region 3 with fail
  generalize ((((w.alloc (.cells #[.int .u64 0, .int .u64 0, .int .i32 0, .int .i32 0, .int .i32 0, .int .i32 0, .int .u8 0, .int .u8 0, .int .u8 0, .int .i32 0, .int .i32 0, .int .i32 0, .int .i32 0, .int .u8 0, .int .u8 0, .int .u8 0, .slice none 0 0, .int .u16 0, .int .u16 0] 34)).alloc (.cells #[.string (str l), .int .i64 0, .int .i64 0] 181)).alloc (.cells #[.int .u64 0, .int .u64 0, .int .i32 0, .int .i32 0, .int .i32 0, .int .i32 0, .int .u8 0, .int .u8 0, .int .u8 0, .int .i32 0, .int .i32 0, .int .i32 0, .int .i32 0, .int .u8 0, .int .u8 0, .int .u8 0, .slice none 0 0, .int .u16 0, .int .u16 0] 34)).setRow (w.heap.size + 1 + 1) #[.int .u64 0, .int .u64 0, .int .i32 0, .int .i32 0, .int .i32 0, .int .i32 0, .int .u8 0, .int .u8 0, .int .u8 0, .int .i32 0, .int .i32 0, .int .i32 0, .int .i32 0, .int .u8 0, .int .u8 0, .int .u8 0, .slice none 0 0, .int .u16 0, .int .u16 0]) = wa at *
  generalize hA : num 8 l = A at *
  have HA := Lib.hid hA
  clear hA
  go_wp2_with fail
  refine (refN8 (w.heap.size + 1) l 0 _ HK0.out.rd).mono ?_
  rintro E w1 ⟨rfl, hr⟩
  rw [HA.out] at hr
  rw [HA.out]
  have HK1 := Lib.hid (rk_read HK0.out hr)
  clear hr HK0
  have c0 := HK1.out.st.of 0 _ rfl
  have f0 := Cells.frozen HK1.out.st 0
  have HK2 : Hid (RK w (w1.setCell ⟨w.heap.size + 1 + 1, 0, none⟩ (.int .u64 (A.val : Int))) A.rest (fin 0 A.err) ⟨A.val, 0, St.zero.p, St.zero.q, [], 0, 0⟩ none 0) := rk_set HK1.out (bk_set0 HK1.out.st _)
  go_upto_region 4 with fail
  generalize w1.setCell ⟨w.heap.size + 1 + 1, 0, none⟩ (.int .u64 (A.val : Int)) = wb at *
  clear c0 f0 HK1
  generalize hB : num 8 A.rest = B at *
  have HB := Lib.hid hB
  clear hB
  go_wp2_with fail
  refine (refN8 (w.heap.size + 1) A.rest _ _ HK2.out.rd).mono ?_
  rintro E w2 ⟨rfl, hr⟩
  rw [HB.out] at hr
  rw [HB.out]
  have HK3 := Lib.hid (rk_read HK2.out hr)
  clear hr HK2
  have c1 := HK3.out.st.of 1 _ rfl
  have f1 := Cells.frozen HK3.out.st 1
  have HK4 : Hid (RK w (w2.setCell ⟨w.heap.size + 1 + 1, 1, none⟩ (.int .u64 (B.val : Int))) B.rest (fin (fin 0 A.err) B.err) ⟨A.val, B.val, St.zero.p, St.zero.q, [], 0, 0⟩ none 0) := rk_set HK3.out (bk_set1 HK3.out.st _)
  go_upto_region 5 with fail
  generalize w2.setCell ⟨w.heap.size + 1 + 1, 1, none⟩ (.int .u64 (B.val : Int)) = wc at *
  clear c1 f1 HK3
  go_wp2
  go_loopw [6] (fun v wr => ∃ k : Nat, k ≤ 2 ∧ v = .int .i64 k ∧ Hid (RK w wr (many (fun _ => pR) k 0 B.rest).rest (fin (fin (fin 0 A.err) B.err) (many (fun _ => pR) k 0 B.rest).err) ⟨A.val, B.val, mkP ((many (fun _ => pR) k 0 B.rest).val.getD 0 []), mkP ((many (fun _ => pR) k 0 B.rest).val.getD 1 []), [], 0, 0⟩ none 0)) (fun v _ => 2 - (intOf v).toNat)
  case atStart => exact ⟨0, by omega, rfl, rk_loop0 HK4.out⟩
  case round =>
    obtain ⟨k, hk, rfl, HL⟩ := hrel
    clear HK4
    by_cases hlt : k < 2
    · have HSN := Lib.hid (many_snoc (fun _ => pR) k 0 B.rest)
      have hml := many_len (fun _ => pR) k 0 B.rest
      generalize many (fun _ => pR) k 0 B.rest = M at *
      have HPUT := Lib.hid (put_pl A.val B.val M.val k hml hlt none 0)
      have HS0L : Hid ((stc ⟨A.val, B.val, mkP (M.val.getD 0 []), mkP (M.val.getD 1 []), [], 0, 0⟩ none 0).size = 19) := rfl
      generalize (⟨A.val, B.val, mkP (M.val.getD 0 []), mkP (M.val.getD 1 []), [], 0, 0⟩ : St) = S0 at *
      obtain ⟨e0, HE0⟩ : ∃ e0, e0 = fin (fin (fin 0 A.err) B.err) M.err := ⟨_, rfl⟩
      rw [← HE0] at HL
      have HE0 := Lib.hid HE0
      have HML := Lib.hid hml
      clear hml
      have hPB : w.heap.size + 3 ≤ wr.heap.size := rk_size HL.out
      have HR0 : Hid (RK w (wr.alloc (.cells #[.int .i32 0, .int .i32 0, .int .i32 0, .int .i32 0, .int .u8 0, .int .u8 0, .int .u8 0] 29)) M.rest e0 S0 none 0) := rk_grown HL.out (grown_alloc _ _)
      have HP0 : Hid (Cells (wr.alloc (.cells #[.int .i32 0, .int .i32 0, .int .i32 0, .int .i32 0, .int .u8 0, .int .u8 0, .int .u8 0] 29)) wr.heap.size 29 #[.int .i32 0, .int .i32 0, .int .i32 0, .int .i32 0, .int .u8 0, .int .u8 0, .int .u8 0]) := Cells.made _ _ _
      have hki : (k : Int) < 2 := by omega
      go_upto_region 9 with fail
      generalize wr.alloc (.cells #[.int .i32 0, .int .i32 0, .int .i32 0, .int .i32 0, .int .u8 0, .int .u8 0, .int .u8 0] 29) = y0 at *
      generalize wr.heap.size = P at *
      clear HL
      generalize hX0 : num 4 M.rest = X0 at *
      have HX0 := Lib.hid hX0
      clear hX0
      go_wp2_with fail
      refine (refN32 (w.heap.size + 1) M.rest e0 _ HR0.out.rd).mono ?_
      rintro E u0 ⟨rfl, hr⟩
      rw [HX0.out] at hr
      rw [HX0.out]
      have HRu := Lib.hid (rk_read HR0.out hr)
      have HPu := Lib.hid (Cells.grown HP0.out hr.2 (by simp; omega))
      skip
      clear hr HR0 HP0 
      have c0 := (show u0.cell? ⟨P, 0, none⟩ = some (.int .i32 0) by rw [HPu.out.cell]; rfl)
      have f0 := HPu.out.frozen 0
      have hlt0 := HPu.out.lt
      have HR1 : Hid (RK w (u0.setCell ⟨P, 0, none⟩ (.int .i32 (wrap32 (X0.val : Int)))) X0.rest (fin e0 X0.err) S0 none 0) := rk_far HRu.out hPB _
      have HP1 : Hid (Cells (u0.setCell ⟨P, 0, none⟩ (.int .i32 (wrap32 (X0.val : Int)))) (P) 29 #[.int .i32 (wrap32 (X0.val : Int)), .int .i32 0, .int .i32 0, .int .i32 0, .int .u8 0, .int .u8 0, .int .u8 0]) := HPu.out.set 0 _
      skip
      go_upto_region 10 with fail
      generalize u0.setCell ⟨P, 0, none⟩ (.int .i32 (wrap32 (X0.val : Int))) = y1 at *
      clear c0 f0 hlt0 HRu HPu 
      generalize hX1 : num 4 X0.rest = X1 at *
      have HX1 := Lib.hid hX1
      clear hX1
      go_wp2_with fail
      refine (refN32 (w.heap.size + 1) X0.rest (fin e0 X0.err) _ HR1.out.rd).mono ?_
      rintro E u1 ⟨rfl, hr⟩
      rw [HX1.out] at hr
      rw [HX1.out]
      have HRu := Lib.hid (rk_read HR1.out hr)
      have HPu := Lib.hid (Cells.grown HP1.out hr.2 (by simp; omega))
      skip
      clear hr HR1 HP1 
      have c1 := (show u1.cell? ⟨P, 1, none⟩ = some (.int .i32 0) by rw [HPu.out.cell]; rfl)
      have f1 := HPu.out.frozen 1
      have hlt1 := HPu.out.lt
      have HR2 : Hid (RK w (u1.setCell ⟨P, 1, none⟩ (.int .i32 (wrap32 (X1.val : Int)))) X1.rest (fin (fin e0 X0.err) X1.err) S0 none 0) := rk_far HRu.out hPB _
      have HP2 : Hid (Cells (u1.setCell ⟨P, 1, none⟩ (.int .i32 (wrap32 (X1.val : Int)))) (P) 29 #[.int .i32 (wrap32 (X0.val : Int)), .int .i32 (wrap32 (X1.val : Int)), .int .i32 0, .int .i32 0, .int .u8 0, .int .u8 0, .int .u8 0]) := HPu.out.set 1 _
      skip
      go_upto_region 11 with fail
      generalize u1.setCell ⟨P, 1, none⟩ (.int .i32 (wrap32 (X1.val : Int))) = y2 at *
      clear c1 f1 hlt1 HRu HPu 
      generalize hX2 : num 4 X1.rest = X2 at *
      have HX2 := Lib.hid hX2
      clear hX2
      go_wp2_with fail
      refine (refN32 (w.heap.size + 1) X1.rest (fin (fin e0 X0.err) X1.err) _ HR2.out.rd).mono ?_
      rintro E u2 ⟨rfl, hr⟩
      rw [HX2.out] at hr
      rw [HX2.out]
      have HRu := Lib.hid (rk_read HR2.out hr)
      have HPu := Lib.hid (Cells.grown HP2.out hr.2 (by simp; omega))
      skip
      clear hr HR2 HP2 
      have c2 := (show u2.cell? ⟨P, 2, none⟩ = some (.int .i32 0) by rw [HPu.out.cell]; rfl)
      have f2 := HPu.out.frozen 2
      have hlt2 := HPu.out.lt
      have HR3 : Hid (RK w (u2.setCell ⟨P, 2, none⟩ (.int .i32 (wrap32 (X2.val : Int)))) X2.rest (fin (fin (fin e0 X0.err) X1.err) X2.err) S0 none 0) := rk_far HRu.out hPB _
      have HP3 : Hid (Cells (u2.setCell ⟨P, 2, none⟩ (.int .i32 (wrap32 (X2.val : Int)))) (P) 29 #[.int .i32 (wrap32 (X0.val : Int)), .int .i32 (wrap32 (X1.val : Int)), .int .i32 (wrap32 (X2.val : Int)), .int .i32 0, .int .u8 0, .int .u8 0, .int .u8 0]) := HPu.out.set 2 _
      skip
      go_upto_region 12 with fail
      generalize u2.setCell ⟨P, 2, none⟩ (.int .i32 (wrap32 (X2.val : Int))) = y3 at *
      clear c2 f2 hlt2 HRu HPu 
      generalize hX3 : num 4 X2.rest = X3 at *
      have HX3 := Lib.hid hX3
      clear hX3
      go_wp2_with fail
      refine (refN32 (w.heap.size + 1) X2.rest (fin (fin (fin e0 X0.err) X1.err) X2.err) _ HR3.out.rd).mono ?_
      rintro E u3 ⟨rfl, hr⟩
      rw [HX3.out] at hr
      rw [HX3.out]
      have HRu := Lib.hid (rk_read HR3.out hr)
      have HPu := Lib.hid (Cells.grown HP3.out hr.2 (by simp; omega))
      skip
      clear hr HR3 HP3 
      have c3 := (show u3.cell? ⟨P, 3, none⟩ = some (.int .i32 0) by rw [HPu.out.cell]; rfl)
      have f3 := HPu.out.frozen 3
      have hlt3 := HPu.out.lt
      have HR4 : Hid (RK w (u3.setCell ⟨P, 3, none⟩ (.int .i32 (wrap32 (X3.val : Int)))) X3.rest (fin (fin (fin (fin e0 X0.err) X1.err) X2.err) X3.err) S0 none 0) := rk_far HRu.out hPB _
      have HP4 : Hid (Cells (u3.setCell ⟨P, 3, none⟩ (.int .i32 (wrap32 (X3.val : Int)))) (P) 29 #[.int .i32 (wrap32 (X0.val : Int)), .int .i32 (wrap32 (X1.val : Int)), .int .i32 (wrap32 (X2.val : Int)), .int .i32 (wrap32 (X3.val : Int)), .int .u8 0, .int .u8 0, .int .u8 0]) := HPu.out.set 3 _
      skip
      go_upto_region 13 with fail
      generalize u3.setCell ⟨P, 3, none⟩ (.int .i32 (wrap32 (X3.val : Int))) = y4 at *
      clear c3 f3 hlt3 HRu HPu 
      generalize hX4 : num 1 X3.rest = X4 at *
      have HX4 := Lib.hid hX4
      clear hX4
      go_wp2_with fail
      refine (refN1 (w.heap.size + 1) X3.rest (fin (fin (fin (fin e0 X0.err) X1.err) X2.err) X3.err) _ HR4.out.rd).mono ?_
      rintro E u4 ⟨rfl, hr⟩
      have hb4 := num_lt 1 X3.rest
      rw [HX4.out] at hr hb4
      rw [HX4.out]
      have hc4 : IntKind.u8.wrap (X4.val : Int) = (X4.val : Int) := u8_own (by simpa using hb4)
      clear hb4
      have HRu := Lib.hid (rk_read HR4.out hr)
      have HPu := Lib.hid (Cells.grown HP4.out hr.2 (by simp; omega))
      skip
      clear hr HR4 HP4 
      have c4 := (show u4.cell? ⟨P, 4, none⟩ = some (.int .u8 0) by rw [HPu.out.cell]; rfl)
      have f4 := HPu.out.frozen 4
      have hlt4 := HPu.out.lt
      have HR5 : Hid (RK w (u4.setCell ⟨P, 4, none⟩ (.int .u8 (X4.val : Int))) X4.rest (fin (fin (fin (fin (fin e0 X0.err) X1.err) X2.err) X3.err) X4.err) S0 none 0) := rk_far HRu.out hPB _
      have HP5 : Hid (Cells (u4.setCell ⟨P, 4, none⟩ (.int .u8 (X4.val : Int))) (P) 29 #[.int .i32 (wrap32 (X0.val : Int)), .int .i32 (wrap32 (X1.val : Int)), .int .i32 (wrap32 (X2.val : Int)), .int .i32 (wrap32 (X3.val : Int)), .int .u8 (X4.val : Int), .int .u8 0, .int .u8 0]) := HPu.out.set 4 _
      skip
      go_upto_region 14 with fail
      generalize u4.setCell ⟨P, 4, none⟩ (.int .u8 (X4.val : Int)) = y5 at *
      clear c4 f4 hlt4 HRu HPu 
      generalize hX5 : num 1 X4.rest = X5 at *
      have HX5 := Lib.hid hX5
      clear hX5
      go_wp2_with fail
      refine (refN1 (w.heap.size + 1) X4.rest (fin (fin (fin (fin (fin e0 X0.err) X1.err) X2.err) X3.err) X4.err) _ HR5.out.rd).mono ?_
      rintro E u5 ⟨rfl, hr⟩
      have hb5 := num_lt 1 X4.rest
      rw [HX5.out] at hr hb5
      rw [HX5.out]
      have hc5 : IntKind.u8.wrap (X5.val : Int) = (X5.val : Int) := u8_own (by simpa using hb5)
      clear hb5
      have HRu := Lib.hid (rk_read HR5.out hr)
      have HPu := Lib.hid (Cells.grown HP5.out hr.2 (by simp; omega))
      skip
      clear hr HR5 HP5 
      have c5 := (show u5.cell? ⟨P, 5, none⟩ = some (.int .u8 0) by rw [HPu.out.cell]; rfl)
      have f5 := HPu.out.frozen 5
      have hlt5 := HPu.out.lt
      have HR6 : Hid (RK w (u5.setCell ⟨P, 5, none⟩ (.int .u8 (X5.val : Int))) X5.rest (fin (fin (fin (fin (fin (fin e0 X0.err) X1.err) X2.err) X3.err) X4.err) X5.err) S0 none 0) := rk_far HRu.out hPB _
      have HP6 : Hid (Cells (u5.setCell ⟨P, 5, none⟩ (.int .u8 (X5.val : Int))) (P) 29 #[.int .i32 (wrap32 (X0.val : Int)), .int .i32 (wrap32 (X1.val : Int)), .int .i32 (wrap32 (X2.val : Int)), .int .i32 (wrap32 (X3.val : Int)), .int .u8 (X4.val : Int), .int .u8 (X5.val : Int), .int .u8 0]) := HPu.out.set 5 _
      skip
      go_upto_region 15 with fail
      generalize u5.setCell ⟨P, 5, none⟩ (.int .u8 (X5.val : Int)) = y6 at *
      clear c5 f5 hlt5 HRu HPu 
      generalize hX6 : num 1 X5.rest = X6 at *
      have HX6 := Lib.hid hX6
      clear hX6
      go_wp2_with fail
      refine (refN1 (w.heap.size + 1) X5.rest (fin (fin (fin (fin (fin (fin e0 X0.err) X1.err) X2.err) X3.err) X4.err) X5.err) _ HR6.out.rd).mono ?_
      rintro E u6 ⟨rfl, hr⟩
      have hb6 := num_lt 1 X5.rest
      rw [HX6.out] at hr hb6
      rw [HX6.out]
      have hc6 : IntKind.u8.wrap (X6.val : Int) = (X6.val : Int) := u8_own (by simpa using hb6)
      clear hb6
      have HRu := Lib.hid (rk_read HR6.out hr)
      have HPu := Lib.hid (Cells.grown HP6.out hr.2 (by simp; omega))
      skip
      clear hr HR6 HP6 
      have c6 := (show u6.cell? ⟨P, 6, none⟩ = some (.int .u8 0) by rw [HPu.out.cell]; rfl)
      have f6 := HPu.out.frozen 6
      have hlt6 := HPu.out.lt
      have HR7 : Hid (RK w (u6.setCell ⟨P, 6, none⟩ (.int .u8 (X6.val : Int))) X6.rest (fin (fin (fin (fin (fin (fin (fin e0 X0.err) X1.err) X2.err) X3.err) X4.err) X5.err) X6.err) S0 none 0) := rk_far HRu.out hPB _
      have HP7 : Hid (Cells (u6.setCell ⟨P, 6, none⟩ (.int .u8 (X6.val : Int))) (P) 29 #[.int .i32 (wrap32 (X0.val : Int)), .int .i32 (wrap32 (X1.val : Int)), .int .i32 (wrap32 (X2.val : Int)), .int .i32 (wrap32 (X3.val : Int)), .int .u8 (X4.val : Int), .int .u8 (X5.val : Int), .int .u8 (X6.val : Int)]) := HPu.out.set 6 _
      skip
      go_upto_region 16 with fail
      generalize u6.setCell ⟨P, 6, none⟩ (.int .u8 (X6.val : Int)) = y7 at *
      clear c6 f6 hlt6 HRu HPu 
      have g0 : y7.cell? ⟨P, 0, none⟩ = some (.int .i32 (wrap32 (X0.val : Int))) := by rw [HP7.out.cell]; rfl
      have g1 : y7.cell? ⟨P, 1, none⟩ = some (.int .i32 (wrap32 (X1.val : Int))) := by rw [HP7.out.cell]; rfl
      have g2 : y7.cell? ⟨P, 2, none⟩ = some (.int .i32 (wrap32 (X2.val : Int))) := by rw [HP7.out.cell]; rfl
      have g3 : y7.cell? ⟨P, 3, none⟩ = some (.int .i32 (wrap32 (X3.val : Int))) := by rw [HP7.out.cell]; rfl
      have g4 : y7.cell? ⟨P, 4, none⟩ = some (.int .u8 (X4.val : Int)) := by rw [HP7.out.cell]; rfl
      have g5 : y7.cell? ⟨P, 5, none⟩ = some (.int .u8 (X5.val : Int)) := by rw [HP7.out.cell]; rfl
      have g6 : y7.cell? ⟨P, 6, none⟩ = some (.int .u8 (X6.val : Int)) := by rw [HP7.out.cell]; rfl
      obtain ⟨w7, hst, hw7, hg7⟩ : ∃ w7, (storePl (.pointer (some ⟨w.heap.size + 1 + 1, 2 + k * 7, none⟩)) (.agg #[.int .i32 (wrap32 (X0.val : Int)), .int .i32 (wrap32 (X1.val : Int)), .int .i32 (wrap32 (X2.val : Int)), .int .i32 (wrap32 (X3.val : Int)), .int .u8 (X4.val : Int), .int .u8 (X5.val : Int), .int .u8 (X6.val : Int)])).run Tryz.prog y7 = .ok () w7 ∧ Cells w7 (w.heap.size + 1 + 1) 34 (stc ⟨A.val, B.val, mkP ((M.val ++ [[X0.val, X1.val, X2.val, X3.val, X4.val, X5.val, X6.val]]).getD 0 []), mkP ((M.val ++ [[X0.val, X1.val, X2.val, X3.val, X4.val, X5.val, X6.val]]).getD 1 []), [], 0, 0⟩ none 0) ∧ y7.grownBy w7 (some (w.heap.size + 1 + 1)) :=
        ⟨_, run_storePl (2 + k * 7) HR7.out.st (by rw [HS0L.out]; omega) rfl (by simp [Value.oneCell']), by rw [← HPUT.out]; exact setRow_heap _ _ _ _ _ _ HR7.out.st, grown_setRow _ _ _⟩
      have HE := pR_eq HX0.out HX1.out HX2.out HX3.out HX4.out HX5.out HX6.out
      have HRZ : Hid (RK w w7 (many (fun _ => pR) (k + 1) 0 B.rest).rest (fin (fin (fin 0 A.err) B.err) (many (fun _ => pR) (k + 1) 0 B.rest).err) ⟨A.val, B.val, mkP ((many (fun _ => pR) (k + 1) 0 B.rest).val.getD 0 []), mkP ((many (fun _ => pR) (k + 1) 0 B.rest).val.getD 1 []), [], 0, 0⟩ none 0) := by
        have h9 := rk_row HR7.out hw7 hg7
        rw [HSN.out, HE]
        simp only [← fin_fin, ← HE0.out]
        exact h9
      clear HE hw7 hg7 HR7 HP7 HPUT HSN HX0 HX1 HX2 HX3 HX4 HX5 HX6 HE0 HML HS0L
      go_wp2
      go_roundw
      case rel => exact ⟨k + 1, by omega, by go_num, HRZ⟩
      case measure => simp [intOf]; omega
    · have hk2 : k = 2 := by omega
      subst hk2
      clear hlt hk
      generalize hP : many (fun _ => pR) 2 0 B.rest = P at *
      have HP := Lib.hid hP
      clear hP
      generalize hV : vd 0 P.rest = V at *
      have HV := Lib.hid hV
      clear hV
      go_wp2_with fail
      refine (refRVar (w.heap.size + 1) P.rest _ _ HL.out.rd).mono ?_
      rintro E w6 ⟨rfl, hr⟩
      rw [HV.out] at hr
      rw [HV.out]
      have HK6 := Lib.hid (rk_read HL.out hr)
      clear hr HL
      obtain ⟨e4, he4⟩ : ∃ e4, e4 = fin (fin (fin (fin 0 A.err) B.err) P.err) V.err := ⟨_, rfl⟩
      rw [← he4] at HK6
      have HE4 := Lib.hid he4
      clear he4
      have d2 := rf_e HK6.out.rd
      by_cases h0 : e4 = 0
      · have hq0 : (e4 == 0) = true := beq_iff_eq.2 h0
        by_cases h8 : 8 < V.val
        · have hd8 : decide ((8 : Int) < (V.val : Int)) = true := decide_eq_true (by omega)
          have HE := q_bad HQ (show tst l = (4, .zero) by rw [tst_eq l A B P V _ _ _ HA.out HB.out HP.out HV.out rfl rfl rfl, if_pos h8])
          clear HA HB HP HV HE4 h0 h8
          have hst := run_storeState (cs := #[.int .u64 0, .int .u64 0, .int .i32 0, .int .i32 0, .int .i32 0, .int .i32 0, .int .u8 0, .int .u8 0, .int .u8 0, .int .i32 0, .int .i32 0, .int .i32 0, .int .i32 0, .int .u8 0, .int .u8 0, .int .u8 0, .slice none 0 0, .int .u16 0, .int .u16 0]) HK6.out.re rfl rfl (by simp [Value.oneCell'])
          go_wp2
          have HRZ := setRow_heap w6 w.heap.size _ (stc .zero none 0) _ _ HK6.out.re
          refine bodyPost_ret (shut_two _ 4 _ Tryz.results75 HRZ rfl rfl rfl) rfl ?_
          exact HE.out _ (grown_of_below (below_setRow HK6.out.be (Nat.le_refl _) _))
        · have hd8 : decide ((8 : Int) < (V.val : Int)) = false := decide_eq_false (by omega)
          have hcv : IntKind.i64.wrap (V.val : Int) = (V.val : Int) := IntWalk.i64_in _ (by omega)
          go_wp2
          clear d2
          go_loopw [9] (fun v wr => ∃ (k : Nat) (aok : Option Addr) (capk : Nat), k ≤ V.val ∧ v = .int .i64 k ∧ Hid (RK w wr (many (fun _ => hR) k 0 V.rest).rest (fin e4 (many (fun _ => hR) k 0 V.rest).err) ⟨A.val, B.val, mkP (P.val.getD 0 []), mkP (P.val.getD 1 []), (many (fun _ => hR) k 0 V.rest).val.map mkH, 0, 0⟩ aok capk) ∧ Hid (wr.ownsRow (w.heap.size + 1 + 1 + 1) 98 6 (.slice aok k capk) k (Hall ((many (fun _ => hR) k 0 V.rest).val.map mkH)))) (fun v _ => V.val - (intOf v).toNat)
          case atStart => exact ⟨0, none, 0, by omega, rfl, rk_loop1 HK6.out, World.ownsRow_nil _ _ _ _⟩
          case round =>
            obtain ⟨k, aok, capk, hk, rfl, HL, HOW⟩ := hrel
            clear HK6
            by_cases hlt : k < V.val
            · have HSN := Lib.hid (many_snoc (fun _ => hR) k 0 V.rest)
              have hml := many_len (fun _ => hR) k 0 V.rest
              generalize many (fun _ => hR) k 0 V.rest = M at *
              have HMM : Hid ((M.val.map mkH).length = k) := by show _ = _; rw [List.length_map]; exact hml
              have HPUT : Hid (∀ (W : World) (x : Sh) (g c : Nat), Bk W (w.heap.size + 1 + 1) ⟨A.val, B.val, mkP (P.val.getD 0 []), mkP (P.val.getD 1 []), M.val.map mkH, 0, 0⟩ aok capk → Bk (W.setCell ⟨w.heap.size + 1 + 1, 16, none⟩ (.slice (some ⟨g, 0, none⟩) (k + 1) c)) (w.heap.size + 1 + 1) ⟨A.val, B.val, mkP (P.val.getD 0 []), mkP (P.val.getD 1 []), M.val.map mkH ++ [x], 0, 0⟩ (some ⟨g, 0, none⟩) c) := fun W x g c h => bk_set16 h (M.val.map mkH ++ [x]) (k + 1) (by rw [List.length_append, HMM.out]; rfl) _ _
              have H16 : Hid (∀ W, Bk W (w.heap.size + 1 + 1) ⟨A.val, B.val, mkP (P.val.getD 0 []), mkP (P.val.getD 1 []), M.val.map mkH, 0, 0⟩ aok capk → W.cell? ⟨w.heap.size + 1 + 1, 16, none⟩ = some (.slice aok k capk)) := fun W h => by
                have := h.of 16 (.slice aok (M.val.map mkH).length capk) rfl
                rwa [HMM.out] at this
              have HMK : Hid (∀ x : List Nat, (M.val ++ [x]).map mkH = M.val.map mkH ++ [mkH x]) := fun x => by simp
              generalize hS0 : (⟨A.val, B.val, mkP (P.val.getD 0 []), mkP (P.val.getD 1 []), M.val.map mkH, 0, 0⟩ : St) = S0 at *
              have HS0 := Lib.hid hS0
              clear hS0
              generalize hold : M.val.map mkH = old at *
              have HOLD := Lib.hid hold
              clear hold
              obtain ⟨e0, he0⟩ : ∃ e0, e0 = fin e4 M.err := ⟨_, rfl⟩
              rw [← he0] at HL
              have HE0 := Lib.hid he0
              clear hml he0
              have hPB : w.heap.size + 3 ≤ wr.heap.size := rk_size HL.out
              have HOB : Hid ((Value.slice aok k capk).ownBlock ≠ some wr.heap.size) := fun e => by have := (HOW.out.lt _ e).2; omega
              have HR0 : Hid (RK w (wr.alloc (.cells #[.int .i32 0, .int .i32 0, .int .i32 0, .int .i32 0, .int .u8 0, .int .u8 0] 98)) M.rest e0 S0 aok capk) := rk_grown HL.out (grown_alloc _ _)
              have HP0 : Hid (Cells (wr.alloc (.cells #[.int .i32 0, .int .i32 0, .int .i32 0, .int .i32 0, .int .u8 0, .int .u8 0] 98)) wr.heap.size 98 #[.int .i32 0, .int .i32 0, .int .i32 0, .int .i32 0, .int .u8 0, .int .u8 0]) := Cells.made _ _ _
              have HO0 : Hid ((wr.alloc (.cells #[.int .i32 0, .int .i32 0, .int .i32 0, .int .i32 0, .int .u8 0, .int .u8 0] 98)).ownsRow (w.heap.size + 1 + 1 + 1) 98 6 (.slice aok k capk) k (Hall old)) := World.ownsRow.alloc HOW.out _
              have hki : (k : Int) < (V.val : Int) := by omega
              go_upto_region 26 with fail
              generalize wr.alloc (.cells #[.int .i32 0, .int .i32 0, .int .i32 0, .int .i32 0, .int .u8 0, .int .u8 0] 98) = y0 at *
              generalize wr.heap.size = P9 at *
              clear HL HOW
              generalize hX0 : num 4 M.rest = X0 at *
              have HX0 := Lib.hid hX0
              clear hX0
              go_wp2_with fail
              refine (refN32 (w.heap.size + 1) M.rest e0 _ HR0.out.rd).mono ?_
              rintro E u0 ⟨rfl, hr⟩
              rw [HX0.out] at hr
              rw [HX0.out]
              have HRu := Lib.hid (rk_read HR0.out hr)
              have HPu := Lib.hid (Cells.grown HP0.out hr.2 (by simp; omega))
              have HOu := Lib.hid (kept_row HO0.out hr.2 (by omega))
              clear hr HR0 HP0 HO0
              have c0 := (show u0.cell? ⟨P9, 0, none⟩ = some (.int .i32 0) by rw [HPu.out.cell]; rfl)
              have f0 := HPu.out.frozen 0
              have hlt0 := HPu.out.lt
              have HR1 : Hid (RK w (u0.setCell ⟨P9, 0, none⟩ (.int .i32 (wrap32 (X0.val : Int)))) X0.rest (fin e0 X0.err) S0 aok capk) := rk_far HRu.out hPB _
              have HP1 : Hid (Cells (u0.setCell ⟨P9, 0, none⟩ (.int .i32 (wrap32 (X0.val : Int)))) (P9) 98 #[.int .i32 (wrap32 (X0.val : Int)), .int .i32 0, .int .i32 0, .int .i32 0, .int .u8 0, .int .u8 0]) := HPu.out.set 0 _
              have HO1 : Hid ((u0.setCell ⟨P9, 0, none⟩ (.int .i32 (wrap32 (X0.val : Int)))).ownsRow (w.heap.size + 1 + 1 + 1) 98 6 (.slice aok k capk) k (Hall old)) := World.ownsRow.kept HOu.out (grown_set u0 _ _ _) (.inr HOB.out)
              go_upto_region 27 with fail
              generalize u0.setCell ⟨P9, 0, none⟩ (.int .i32 (wrap32 (X0.val : Int))) = y1 at *
              clear c0 f0 hlt0 HRu HPu HOu
              generalize hX1 : num 4 X0.rest = X1 at *
              have HX1 := Lib.hid hX1
              clear hX1
              go_wp2_with fail
              refine (refN32 (w.heap.size + 1) X0.rest (fin e0 X0.err) _ HR1.out.rd).mono ?_
              rintro E u1 ⟨rfl, hr⟩
              rw [HX1.out] at hr
              rw [HX1.out]
              have HRu := Lib.hid (rk_read HR1.out hr)
              have HPu := Lib.hid (Cells.grown HP1.out hr.2 (by simp; omega))
              have HOu := Lib.hid (kept_row HO1.out hr.2 (by omega))
              clear hr HR1 HP1 HO1
              have c1 := (show u1.cell? ⟨P9, 1, none⟩ = some (.int .i32 0) by rw [HPu.out.cell]; rfl)
              have f1 := HPu.out.frozen 1
              have hlt1 := HPu.out.lt
              have HR2 : Hid (RK w (u1.setCell ⟨P9, 1, none⟩ (.int .i32 (wrap32 (X1.val : Int)))) X1.rest (fin (fin e0 X0.err) X1.err) S0 aok capk) := rk_far HRu.out hPB _
              have HP2 : Hid (Cells (u1.setCell ⟨P9, 1, none⟩ (.int .i32 (wrap32 (X1.val : Int)))) (P9) 98 #[.int .i32 (wrap32 (X0.val : Int)), .int .i32 (wrap32 (X1.val : Int)), .int .i32 0, .int .i32 0, .int .u8 0, .int .u8 0]) := HPu.out.set 1 _
              have HO2 : Hid ((u1.setCell ⟨P9, 1, none⟩ (.int .i32 (wrap32 (X1.val : Int)))).ownsRow (w.heap.size + 1 + 1 + 1) 98 6 (.slice aok k capk) k (Hall old)) := World.ownsRow.kept HOu.out (grown_set u1 _ _ _) (.inr HOB.out)
              go_upto_region 28 with fail
              generalize u1.setCell ⟨P9, 1, none⟩ (.int .i32 (wrap32 (X1.val : Int))) = y2 at *
              clear c1 f1 hlt1 HRu HPu HOu
              generalize hX2 : num 4 X1.rest = X2 at *
              have HX2 := Lib.hid hX2
              clear hX2
              go_wp2_with fail
              refine (refN32 (w.heap.size + 1) X1.rest (fin (fin e0 X0.err) X1.err) _ HR2.out.rd).mono ?_
              rintro E u2 ⟨rfl, hr⟩
              rw [HX2.out] at hr
              rw [HX2.out]
              have HRu := Lib.hid (rk_read HR2.out hr)
              have HPu := Lib.hid (Cells.grown HP2.out hr.2 (by simp; omega))
              have HOu := Lib.hid (kept_row HO2.out hr.2 (by omega))
              clear hr HR2 HP2 HO2
              have c2 := (show u2.cell? ⟨P9, 2, none⟩ = some (.int .i32 0) by rw [HPu.out.cell]; rfl)
              have f2 := HPu.out.frozen 2
              have hlt2 := HPu.out.lt
              have HR3 : Hid (RK w (u2.setCell ⟨P9, 2, none⟩ (.int .i32 (wrap32 (X2.val : Int)))) X2.rest (fin (fin (fin e0 X0.err) X1.err) X2.err) S0 aok capk) := rk_far HRu.out hPB _
              have HP3 : Hid (Cells (u2.setCell ⟨P9, 2, none⟩ (.int .i32 (wrap32 (X2.val : Int)))) (P9) 98 #[.int .i32 (wrap32 (X0.val : Int)), .int .i32 (wrap32 (X1.val : Int)), .int .i32 (wrap32 (X2.val : Int)), .int .i32 0, .int .u8 0, .int .u8 0]) := HPu.out.set 2 _
              have HO3 : Hid ((u2.setCell ⟨P9, 2, none⟩ (.int .i32 (wrap32 (X2.val : Int)))).ownsRow (w.heap.size + 1 + 1 + 1) 98 6 (.slice aok k capk) k (Hall old)) := World.ownsRow.kept HOu.out (grown_set u2 _ _ _) (.inr HOB.out)
              go_upto_region 29 with fail
              generalize u2.setCell ⟨P9, 2, none⟩ (.int .i32 (wrap32 (X2.val : Int))) = y3 at *
              clear c2 f2 hlt2 HRu HPu HOu
              generalize hX3 : num 4 X2.rest = X3 at *
              have HX3 := Lib.hid hX3
              clear hX3
              go_wp2_with fail
              refine (refN32 (w.heap.size + 1) X2.rest (fin (fin (fin e0 X0.err) X1.err) X2.err) _ HR3.out.rd).mono ?_
              rintro E u3 ⟨rfl, hr⟩
              rw [HX3.out] at hr
              rw [HX3.out]
              have HRu := Lib.hid (rk_read HR3.out hr)
              have HPu := Lib.hid (Cells.grown HP3.out hr.2 (by simp; omega))
              have HOu := Lib.hid (kept_row HO3.out hr.2 (by omega))
              clear hr HR3 HP3 HO3
              have c3 := (show u3.cell? ⟨P9, 3, none⟩ = some (.int .i32 0) by rw [HPu.out.cell]; rfl)
              have f3 := HPu.out.frozen 3
              have hlt3 := HPu.out.lt
              have HR4 : Hid (RK w (u3.setCell ⟨P9, 3, none⟩ (.int .i32 (wrap32 (X3.val : Int)))) X3.rest (fin (fin (fin (fin e0 X0.err) X1.err) X2.err) X3.err) S0 aok capk) := rk_far HRu.out hPB _
              have HP4 : Hid (Cells (u3.setCell ⟨P9, 3, none⟩ (.int .i32 (wrap32 (X3.val : Int)))) (P9) 98 #[.int .i32 (wrap32 (X0.val : Int)), .int .i32 (wrap32 (X1.val : Int)), .int .i32 (wrap32 (X2.val : Int)), .int .i32 (wrap32 (X3.val : Int)), .int .u8 0, .int .u8 0]) := HPu.out.set 3 _
              have HO4 : Hid ((u3.setCell ⟨P9, 3, none⟩ (.int .i32 (wrap32 (X3.val : Int)))).ownsRow (w.heap.size + 1 + 1 + 1) 98 6 (.slice aok k capk) k (Hall old)) := World.ownsRow.kept HOu.out (grown_set u3 _ _ _) (.inr HOB.out)
              go_upto_region 30 with fail
              generalize u3.setCell ⟨P9, 3, none⟩ (.int .i32 (wrap32 (X3.val : Int))) = y4 at *
              clear c3 f3 hlt3 HRu HPu HOu
              generalize hX4 : num 1 X3.rest = X4 at *
              have HX4 := Lib.hid hX4
              clear hX4
              go_wp2_with fail
              refine (refN1 (w.heap.size + 1) X3.rest (fin (fin (fin (fin e0 X0.err) X1.err) X2.err) X3.err) _ HR4.out.rd).mono ?_
              rintro E u4 ⟨rfl, hr⟩
              have hb4 := num_lt 1 X3.rest
              rw [HX4.out] at hr hb4
              rw [HX4.out]
              have hc4 : IntKind.u8.wrap (X4.val : Int) = (X4.val : Int) := u8_own (by simpa using hb4)
              clear hb4
              have HRu := Lib.hid (rk_read HR4.out hr)
              have HPu := Lib.hid (Cells.grown HP4.out hr.2 (by simp; omega))
              have HOu := Lib.hid (kept_row HO4.out hr.2 (by omega))
              clear hr HR4 HP4 HO4
              have c4 := (show u4.cell? ⟨P9, 4, none⟩ = some (.int .u8 0) by rw [HPu.out.cell]; rfl)
              have f4 := HPu.out.frozen 4
              have hlt4 := HPu.out.lt
              have HR5 : Hid (RK w (u4.setCell ⟨P9, 4, none⟩ (.int .u8 (X4.val : Int))) X4.rest (fin (fin (fin (fin (fin e0 X0.err) X1.err) X2.err) X3.err) X4.err) S0 aok capk) := rk_far HRu.out hPB _
              have HP5 : Hid (Cells (u4.setCell ⟨P9, 4, none⟩ (.int .u8 (X4.val : Int))) (P9) 98 #[.int .i32 (wrap32 (X0.val : Int)), .int .i32 (wrap32 (X1.val : Int)), .int .i32 (wrap32 (X2.val : Int)), .int .i32 (wrap32 (X3.val : Int)), .int .u8 (X4.val : Int), .int .u8 0]) := HPu.out.set 4 _
              have HO5 : Hid ((u4.setCell ⟨P9, 4, none⟩ (.int .u8 (X4.val : Int))).ownsRow (w.heap.size + 1 + 1 + 1) 98 6 (.slice aok k capk) k (Hall old)) := World.ownsRow.kept HOu.out (grown_set u4 _ _ _) (.inr HOB.out)
              go_upto_region 31 with fail
              generalize u4.setCell ⟨P9, 4, none⟩ (.int .u8 (X4.val : Int)) = y5 at *
              clear c4 f4 hlt4 HRu HPu HOu
              generalize hX5 : num 1 X4.rest = X5 at *
              have HX5 := Lib.hid hX5
              clear hX5
              go_wp2_with fail
              refine (refN1 (w.heap.size + 1) X4.rest (fin (fin (fin (fin (fin e0 X0.err) X1.err) X2.err) X3.err) X4.err) _ HR5.out.rd).mono ?_
              rintro E u5 ⟨rfl, hr⟩
              have hb5 := num_lt 1 X4.rest
              rw [HX5.out] at hr hb5
              rw [HX5.out]
              have hc5 : IntKind.u8.wrap (X5.val : Int) = (X5.val : Int) := u8_own (by simpa using hb5)
              clear hb5
              have HRu := Lib.hid (rk_read HR5.out hr)
              have HPu := Lib.hid (Cells.grown HP5.out hr.2 (by simp; omega))
              have HOu := Lib.hid (kept_row HO5.out hr.2 (by omega))
              clear hr HR5 HP5 HO5
              have c5 := (show u5.cell? ⟨P9, 5, none⟩ = some (.int .u8 0) by rw [HPu.out.cell]; rfl)
              have f5 := HPu.out.frozen 5
              have hlt5 := HPu.out.lt
              have HR6 : Hid (RK w (u5.setCell ⟨P9, 5, none⟩ (.int .u8 (X5.val : Int))) X5.rest (fin (fin (fin (fin (fin (fin e0 X0.err) X1.err) X2.err) X3.err) X4.err) X5.err) S0 aok capk) := rk_far HRu.out hPB _
              have HP6 : Hid (Cells (u5.setCell ⟨P9, 5, none⟩ (.int .u8 (X5.val : Int))) (P9) 98 #[.int .i32 (wrap32 (X0.val : Int)), .int .i32 (wrap32 (X1.val : Int)), .int .i32 (wrap32 (X2.val : Int)), .int .i32 (wrap32 (X3.val : Int)), .int .u8 (X4.val : Int), .int .u8 (X5.val : Int)]) := HPu.out.set 5 _
              have HO6 : Hid ((u5.setCell ⟨P9, 5, none⟩ (.int .u8 (X5.val : Int))).ownsRow (w.heap.size + 1 + 1 + 1) 98 6 (.slice aok k capk) k (Hall old)) := World.ownsRow.kept HOu.out (grown_set u5 _ _ _) (.inr HOB.out)
              go_upto_region 32 with fail
              generalize u5.setCell ⟨P9, 5, none⟩ (.int .u8 (X5.val : Int)) = y6 at *
              clear c5 f5 hlt5 HRu HPu HOu
              have m16 := H16.out _ HR6.out.st
              have g0 : y6.cell? ⟨P9, 0, none⟩ = some (.int .i32 (wrap32 (X0.val : Int))) := by rw [HP6.out.cell]; rfl
              have g1 : y6.cell? ⟨P9, 1, none⟩ = some (.int .i32 (wrap32 (X1.val : Int))) := by rw [HP6.out.cell]; rfl
              have g2 : y6.cell? ⟨P9, 2, none⟩ = some (.int .i32 (wrap32 (X2.val : Int))) := by rw [HP6.out.cell]; rfl
              have g3 : y6.cell? ⟨P9, 3, none⟩ = some (.int .i32 (wrap32 (X3.val : Int))) := by rw [HP6.out.cell]; rfl
              have g4 : y6.cell? ⟨P9, 4, none⟩ = some (.int .u8 (X4.val : Int)) := by rw [HP6.out.cell]; rfl
              have g5 : y6.cell? ⟨P9, 5, none⟩ = some (.int .u8 (X5.val : Int)) := by rw [HP6.out.cell]; rfl
              obtain ⟨i0, hi0, hz0, hz1, hz2⟩ := info_parts info_Shot
              have HI0 := Lib.hid hi0
              have HZ0 := Lib.hid hz0
              have HZ1 := Lib.hid hz1
              have HZ2 := Lib.hid hz2
              clear hi0 hz0 hz1 hz2
              have hb1 : k + 1 ≤ maxLen := by simp only [maxLen]; omega
              have hb2 : (k + 1) * 20 ≤ 140737488355328 := by omega
              have hz6 := rk_size HR6.out
              have HNE : Hid (some (w.heap.size + 1 + 1) ≠ (Value.slice aok k capk).ownBlock ∧ ∀ q, (Value.slice aok k capk).ownBlock = some q → w.heap.size + 3 ≤ q) := ⟨fun e => by have := (HO6.out.lt _ e.symm).1; omega, fun q e => (HO6.out.lt q e).1⟩
              go_wp2_with (at_builtin; refine wpList_append_lies _ rfl (.tmp 97) (.tmp 99) 31 rfl (w.heap.size + 1 + 1 + 1) 98 i0 (.agg #[.int .i32 0, .int .i32 0, .int .i32 0, .int .i32 0, .int .u8 0, .int .u8 0]) 6 20 Tryz.underlying31 HI0.out HZ0.out HZ1.out HZ2.out rfl (by decide) _ _ _ (by simp [Act.eval]) (World.ownsRow.alloc HO6.out _) ⟨y6.heap.size, 0, none⟩ 1 1 (Hcs (mkH [X0.val, X1.val, X2.val, X3.val, X4.val, X5.val])) (by simp [Act.eval]) rfl (World.news_of_block (heap_alloc_new _ _)) (by simp [Hcs, Value.oneCell']) (by decide) hb1 hb2 (by simp; omega) _ rfl ?_; intro g' cap' w8 hown1 hgr hat hlt1; have HR8 := Lib.hid (rk_grownR (rk_grown HR6.out (grown_alloc _ _)) hgr HNE.out.2); have HO8 := Lib.hid hown1; clear hown1 hgr hat m16 g0 g1 g2 g3 g4 g5; have c16 := H16.out _ HR8.out.st; have f16 := Cells.frozen HR8.out.st 16)
              have HE := hR_eq HX0.out HX1.out HX2.out HX3.out HX4.out HX5.out
              have HRZ : Hid (RK w (w8.setCell ⟨w.heap.size + 1 + 1, 16, none⟩ (.slice (some ⟨g', 0, none⟩) (k + 1) cap')) (many (fun _ => hR) (k + 1) 0 V.rest).rest (fin e4 (many (fun _ => hR) (k + 1) 0 V.rest).err) ⟨A.val, B.val, mkP (P.val.getD 0 []), mkP (P.val.getD 1 []), (many (fun _ => hR) (k + 1) 0 V.rest).val.map mkH, 0, 0⟩ (some ⟨g', 0, none⟩) cap') := by
                have h9 := rk_set HR8.out (HPUT.out w8 (mkH [X0.val, X1.val, X2.val, X3.val, X4.val, X5.val]) g' cap' HR8.out.st)
                rw [HSN.out, HE]
                simp only [← fin_fin, ← HE0.out, HMK.out]
                exact h9
              have HOZ : Hid ((w8.setCell ⟨w.heap.size + 1 + 1, 16, none⟩ (.slice (some ⟨g', 0, none⟩) (k + 1) cap')).ownsRow (w.heap.size + 1 + 1 + 1) 98 6 (.slice (some ⟨g', 0, none⟩) (k + 1) cap') (k + 1) (Hall ((many (fun _ => hR) (k + 1) 0 V.rest).val.map mkH))) := by
                have h9 := ownsRow_setCell_below HO8.out (a := ⟨w.heap.size + 1 + 1, 16, none⟩) (by show w.heap.size + 1 + 1 < w.heap.size + 1 + 1 + 1; omega) (.slice (some ⟨g', 0, none⟩) (k + 1) cap')
                rw [HSN.out, HE]
                simp only [HMK.out, Hall_snoc]
                exact h9
              clear HE c16 f16 HR6 HP6 HO6 HR8 HO8 HPUT HSN HX0 HX1 HX2 HX3 HX4 HX5 HE0 H16 HMK HNE HMM HS0 HOLD
              go_wp2
              go_roundw
              case rel => exact ⟨k + 1, _, _, by omega, by go_num, HRZ, HOZ⟩
              case measure => simp [intOf]; omega
            · have hkv : k = V.val := by omega
              subst hkv
              have hlen := many_len (fun _ => hR) V.val 0 V.rest
              have hokH := many_okM (P := fun _ => hR) (ok := fun _ => okM okN 6 0) (fun _ l => many_lt 6 0 l) V.val 0 V.rest
              generalize hH : many (fun _ => hR) V.val 0 V.rest = H at *
              have hH := Lib.hid hH
              obtain ⟨_, hml, hfit⟩ := raws_maps _ _ _ hokH
              have hmm : (H.val.map mkH).length = V.val := by rw [List.length_map, hlen]
              have HFIT := Lib.hid hfit
              have HMM := Lib.hid hmm
              have hok2 := many_okM (P := fun _ => pR) (ok := fun _ => okM okN 7 0) (fun _ l => many_lt 7 0 l) 2 0 B.rest
              rw [HP.out] at hok2
              have HPF : Hid ((mkP (P.val.getD 0 [])).fit ∧ (mkP (P.val.getD 1 [])).fit) := by
                obtain ⟨a, r, e, h1, b, r2, e2, h2, _⟩ := hok2
                rw [e, e2]
                exact ⟨(raw_mkP h1).2, (raw_mkP h2).2⟩
              have HAB : Hid (A.val < 18446744073709551616 ∧ B.val < 18446744073709551616) := by
                have h1 := num_lt 8 l
                have h2 := num_lt 8 A.rest
                rw [HA.out] at h1
                rw [HB.out] at h2
                exact ⟨by simpa using h1, by simpa using h2⟩
              clear hlen hokH hml hfit hmm hok2 hlt
              generalize hsh : H.val.map mkH = sh at *
              have hsh := Lib.hid hsh
              obtain ⟨e5, he5⟩ : ∃ e5, e5 = fin e4 H.err := ⟨_, rfl⟩
              rw [← he5] at HL
              have HE5 := Lib.hid he5
              clear he5
              generalize hC : num 2 H.rest = C at *
              have hC := Lib.hid hC
              generalize hD : num 2 C.rest = D at *
              have hD := Lib.hid hD
              have hCl := num_lt 2 H.rest
              have hDl := num_lt 2 C.rest
              rw [hC.out] at hCl
              rw [hD.out] at hDl
              have HCL := Lib.hid (show C.val < 65536 by simpa using hCl)
              have HDL := Lib.hid (show D.val < 65536 by simpa using hDl)
              have hwC := u16_own HCL.out
              have hwD := u16_own HDL.out
              clear hCl hDl
              go_wp2_with fail
              refine (refN2 (w.heap.size + 1) H.rest e5 _ HL.out.rd).mono ?_
              rintro E wa1 ⟨rfl, hr⟩
              rw [hC.out] at hr
              rw [hC.out]
              have HKa := Lib.hid (rk_read HL.out hr)
              have HOa := Lib.hid (kept_row HOW.out hr.2 (by omega))
              clear hr HL HOW
              have c17 := HKa.out.st.of 17 _ rfl
              have f17 := Cells.frozen HKa.out.st 17
              have HKb := Lib.hid (rk_set HKa.out (bk_set17 HKa.out.st C.val))
              have HOb := Lib.hid (ownsRow_setCell_below HOa.out (a := ⟨w.heap.size + 1 + 1, 17, none⟩) (by show w.heap.size + 1 + 1 < w.heap.size + 1 + 1 + 1; omega) (.int .u16 (C.val : Int)))
              go_upto_region 34 with fail
              generalize wa1.setCell ⟨w.heap.size + 1 + 1, 17, none⟩ (.int .u16 (C.val : Int)) = wb1 at *
              clear c17 f17 HKa HOa
              go_wp2_with fail
              refine (refN2 (w.heap.size + 1) C.rest _ _ HKb.out.rd).mono ?_
              rintro E wc1 ⟨rfl, hr⟩
              rw [hD.out] at hr
              rw [hD.out]
              have HKc := Lib.hid (rk_read HKb.out hr)
              have HOc := Lib.hid (kept_row HOb.out hr.2 (by omega))
              clear hr HKb HOb
              have c18 := HKc.out.st.of 18 _ rfl
              have f18 := Cells.frozen HKc.out.st 18
              have HKd := Lib.hid (rk_set HKc.out (bk_set18 HKc.out.st D.val))
              have HOd := Lib.hid (ownsRow_setCell_below HOc.out (a := ⟨w.heap.size + 1 + 1, 18, none⟩) (by show w.heap.size + 1 + 1 < w.heap.size + 1 + 1 + 1; omega) (.int .u16 (D.val : Int)))
              go_upto_region 35 with fail
              generalize wc1.setCell ⟨w.heap.size + 1 + 1, 18, none⟩ (.int .u16 (D.val : Int)) = wd1 at *
              clear c18 f18 HKc HOc
              have he := tst_eq l A B P V H C D HA.out HB.out HP.out HV.out hH.out hC.out hD.out
              rw [if_neg h8, hsh.out] at he
              simp only [← HE4.out, ← HE5.out] at he
              clear HA HB HP HV hH hC hD
              generalize hee : fin (fin e5 C.err) D.err = ee at *
              have d2 := rf_e HKd.out.rd
              clear hee HE5 HE4
              by_cases hz : ee = 0
              · have hqz : (ee == 0) = true := beq_iff_eq.2 hz
                rw [if_neg (not_not_intro hz)] at he
                by_cases hr0 : D.rest = []
                · have hemp : (str []).toList.isEmpty = true := by rw [ByteArray.toList_eq, str_data]; rfl
                  have HFS : Hid (St.fit ⟨A.val, B.val, mkP (P.val.getD 0 []), mkP (P.val.getD 1 []), sh, C.val, D.val⟩) :=
                    ⟨HAB.out.1, HAB.out.2, HPF.out.1, HPF.out.2, HFIT.out, HCL.out, HDL.out⟩
                  have HSS := Lib.hid (shs_own HOd.out HMM.out HFIT.out)
                  have HSH : Hid (St.ss ⟨A.val, B.val, mkP (P.val.getD 0 []), mkP (P.val.getD 1 []), sh, C.val, D.val⟩ = sh) := rfl
                  generalize (⟨A.val, B.val, mkP (P.val.getD 0 []), mkP (P.val.getD 1 []), sh, C.val, D.val⟩ : St) = s at *
                  have hlen : s.ss.length = V.val := by rw [HSH.out]; exact HMM.out
                  have hch : ∀ W, Shs W aok sh → Calls Tryz.prog 105 #[sv s aok capk] W fun E w' => E = .returned (.int .i64 (chk s)) ∧ W.grownBy w' none := fun W h => refCheck s aok capk W (by rw [HSH.out]; exact h)
                  have hrow : rowOf wd1 (w.heap.size + 1 + 1) = stc s aok capk := rowOf_cells HKd.out.st
                  rw [stc, hlen] at hrow
                  simp only [sv, stc, hlen] at hch
                  have HLEN := Lib.hid hlen
                  rw [hr0] at HKd
                  cases hgd : s.good
                  · rw [if_pos (.inr hgd)] at he
                    have HE := q_bad HQ he
                    simp only [chk_no hgd] at hch
                    have HCH := Lib.hid hch
                    clear he hgd hch hlen hz
                    go_wp2_with fail
                    refine (refRest _ _ _ _ HKd.out.rd).mono ?_
                    rintro E we1 ⟨rfl, hb9⟩
                    have hr9 : rowOf we1 (w.heap.size + 1 + 1) = #[.int .u64 (s.fr : Int), .int .u64 (s.sd : Int), .int .i32 s.p.x, .int .i32 s.p.y, .int .i32 s.p.vx, .int .i32 s.p.vy, .int .u8 (s.p.h : Int), .int .u8 (s.p.c : Int), .int .u8 (s.p.f : Int), .int .i32 s.q.x, .int .i32 s.q.y, .int .i32 s.q.vx, .int .i32 s.q.vy, .int .u8 (s.q.h : Int), .int .u8 (s.q.c : Int), .int .u8 (s.q.f : Int), .slice aok V.val capk, .int .u16 (s.s0 : Int), .int .u16 (s.s1 : Int)] := by rw [keep_row hb9 _ (Cells.lt HKd.out.st)]; exact hrow
                    have HKe := Lib.hid (rk_grown HKd.out hb9)
                    have HOe := Lib.hid (World.ownsRow.kept HOd.out hb9 (Classical.em _))
                    have HSe := Lib.hid (Shs_grown HSS.out hb9 (by simp))
                    clear hb9 hrow HSS HKd HOd
                    go_wp2_with fail
                    refine (HCH.out we1 HSe.out).mono ?_
                    rintro E wf1 ⟨rfl, hb11⟩
                    have HKf := Lib.hid (rk_grown HKe.out hb11)
                    have HOf := Lib.hid (World.ownsRow.kept HOe.out hb11 (Classical.em _))
                    clear hb11 hr9 HKe HOe HSe
                    have hst := run_storeState (cs := #[.int .u64 0, .int .u64 0, .int .i32 0, .int .i32 0, .int .i32 0, .int .i32 0, .int .u8 0, .int .u8 0, .int .u8 0, .int .i32 0, .int .i32 0, .int .i32 0, .int .i32 0, .int .u8 0, .int .u8 0, .int .u8 0, .slice none 0 0, .int .u16 0, .int .u16 0]) HKf.out.re rfl rfl (by simp [Value.oneCell'])
                    go_wp2
                    have HRZ := setRow_heap wf1 w.heap.size _ (stc .zero none 0) _ _ HKf.out.re
                    refine bodyPost_ret (shut_two _ 4 _ Tryz.results75 HRZ rfl rfl rfl) rfl ?_
                    exact HE.out _ (grown_of_below (below_setRow HKf.out.be (Nat.le_refl _) _))
                  · rw [if_neg (by rintro (h | h); exact h hr0; rw [hgd] at h; cases h)] at he
                    have HE := q_good HQ he HSH.out HMM.out
                    simp only [chk_yes hgd] at hch
                    have HCH := Lib.hid hch
                    clear he hgd hch hlen hz
                    go_wp2_with fail
                    refine (refRest _ _ _ _ HKd.out.rd).mono ?_
                    rintro E we1 ⟨rfl, hb9⟩
                    have hr9 : rowOf we1 (w.heap.size + 1 + 1) = #[.int .u64 (s.fr : Int), .int .u64 (s.sd : Int), .int .i32 s.p.x, .int .i32 s.p.y, .int .i32 s.p.vx, .int .i32 s.p.vy, .int .u8 (s.p.h : Int), .int .u8 (s.p.c : Int), .int .u8 (s.p.f : Int), .int .i32 s.q.x, .int .i32 s.q.y, .int .i32 s.q.vx, .int .i32 s.q.vy, .int .u8 (s.q.h : Int), .int .u8 (s.q.c : Int), .int .u8 (s.q.f : Int), .slice aok V.val capk, .int .u16 (s.s0 : Int), .int .u16 (s.s1 : Int)] := by rw [keep_row hb9 _ (Cells.lt HKd.out.st)]; exact hrow
                    have HKe := Lib.hid (rk_grown HKd.out hb9)
                    have HOe := Lib.hid (World.ownsRow.kept HOd.out hb9 (Classical.em _))
                    have HSe := Lib.hid (Shs_grown HSS.out hb9 (by simp))
                    clear hb9 hrow HSS HKd HOd
                    go_wp2_with fail
                    refine (HCH.out we1 HSe.out).mono ?_
                    rintro E wf1 ⟨rfl, hb11⟩
                    have HKf := Lib.hid (rk_grown HKe.out hb11)
                    have HOf := Lib.hid (World.ownsRow.kept HOe.out hb11 (Classical.em _))
                    clear hb11 hr9 HKe HOe HSe
                    have hrow2 : rowOf wf1 (w.heap.size + 1 + 1) = stc s aok capk := rowOf_cells HKf.out.st
                    rw [stc, HLEN.out] at hrow2
                    have hst := run_storeState (cs := #[.int .u64 (s.fr : Int), .int .u64 (s.sd : Int), .int .i32 s.p.x, .int .i32 s.p.y, .int .i32 s.p.vx, .int .i32 s.p.vy, .int .u8 (s.p.h : Int), .int .u8 (s.p.c : Int), .int .u8 (s.p.f : Int), .int .i32 s.q.x, .int .i32 s.q.y, .int .i32 s.q.vx, .int .i32 s.q.vy, .int .u8 (s.q.h : Int), .int .u8 (s.q.c : Int), .int .u8 (s.q.f : Int), .slice aok V.val capk, .int .u16 (s.s0 : Int), .int .u16 (s.s1 : Int)]) HKf.out.re rfl rfl (by simp [Value.oneCell'])
                    go_wp2
                    have HRZ := setRow_heap wf1 w.heap.size _ (#[.int .u64 (s.fr : Int), .int .u64 (s.sd : Int), .int .i32 s.p.x, .int .i32 s.p.y, .int .i32 s.p.vx, .int .i32 s.p.vy, .int .u8 (s.p.h : Int), .int .u8 (s.p.c : Int), .int .u8 (s.p.f : Int), .int .i32 s.q.x, .int .i32 s.q.y, .int .i32 s.q.vx, .int .i32 s.q.vy, .int .u8 (s.q.h : Int), .int .u8 (s.q.c : Int), .int .u8 (s.q.f : Int), .slice aok V.val capk, .int .u16 (s.s0 : Int), .int .u16 (s.s1 : Int)]) _ _ HKf.out.re
                    refine bodyPost_ret (shut_two _ 0 _ Tryz.results75 HRZ rfl rfl rfl) rfl ?_
                    have HE2 := HE.out
                    simp only [stc, HLEN.out] at HE2
                    exact HE2 _ aok capk (grown_of_below (below_setRow HKf.out.be (Nat.le_refl _) _)) (owns_less (kept_row HOf.out (grown_setRow _ _ _) (by omega)) (by omega))
                · rw [if_pos (.inl hr0)] at he
                  have HE := q_bad HQ he
                  have hemp : (str D.rest).toList.isEmpty = false := by
                    rw [ByteArray.toList_eq, str_data]
                    cases hdd : D.rest
                    · exact absurd hdd hr0
                    · rfl
                  clear he hr0
                  go_wp2_with fail
                  refine (refRest _ _ _ _ HKd.out.rd).mono ?_
                  rintro E we1 ⟨rfl, hb9⟩
                  have HKe := Lib.hid (rk_grown HKd.out hb9)
                  clear hb9 d2
                  have hst := run_storeState (cs := #[.int .u64 0, .int .u64 0, .int .i32 0, .int .i32 0, .int .i32 0, .int .i32 0, .int .u8 0, .int .u8 0, .int .u8 0, .int .i32 0, .int .i32 0, .int .i32 0, .int .i32 0, .int .u8 0, .int .u8 0, .int .u8 0, .slice none 0 0, .int .u16 0, .int .u16 0]) HKe.out.re rfl rfl (by simp [Value.oneCell'])
                  go_wp2
                  have HRZ := setRow_heap we1 w.heap.size _ (stc .zero none 0) _ _ HKe.out.re
                  refine bodyPost_ret (shut_two _ 4 _ Tryz.results75 HRZ rfl rfl rfl) rfl ?_
                  exact HE.out _ (grown_of_below (below_setRow HKe.out.be (Nat.le_refl _) _))
              · have hqz : (ee == 0) = false := beq_eq_false_iff_ne.2 hz
                rw [if_pos hz] at he
                have HE := q_bad HQ he
                clear he hz
                have HKy := Lib.hid (rk_grown HKd.out (grown_drw wd1))
                have d2 := rf_e HKy.out.rd
                have hst := run_storeState (cs := #[.int .u64 0, .int .u64 0, .int .i32 0, .int .i32 0, .int .i32 0, .int .i32 0, .int .u8 0, .int .u8 0, .int .u8 0, .int .i32 0, .int .i32 0, .int .i32 0, .int .i32 0, .int .u8 0, .int .u8 0, .int .u8 0, .slice none 0 0, .int .u16 0, .int .u16 0]) HKy.out.re rfl rfl (by simp [Value.oneCell'])
                have d2s : (wd1.drew.setRow w.heap.size #[.int .u64 0, .int .u64 0, .int .i32 0, .int .i32 0, .int .i32 0, .int .i32 0, .int .u8 0, .int .u8 0, .int .u8 0, .int .i32 0, .int .i32 0, .int .i32 0, .int .i32 0, .int .u8 0, .int .u8 0, .int .u8 0, .slice none 0 0, .int .u16 0, .int .u16 0]).cell? ⟨w.heap.size + 1, 2, none⟩ = some (.int .i64 ee) := rf_e (rf_on HKy.out.rd (grown_setRow _ _ _) (by simp))
                go_wp2_with fail
                go_region_law (fail)
                all_goals
                  go_wp2
                  have HRZ := setRow_heap wd1.drew w.heap.size _ (stc .zero none 0) _ _ HKy.out.re
                  refine bodyPost_ret (shut_two _ ee _ Tryz.results75 HRZ rfl rfl rfl) rfl ?_
                  exact HE.out _ (grown_of_below (below_setRow HKy.out.be (Nat.le_refl _) _))
      · have hq0 : (e4 == 0) = false := beq_eq_false_iff_ne.2 h0
        have HE := q_bad HQ (show tst l = (e4, .zero) by rw [HE4.out] at h0 ⊢; exact tst_early HA.out HB.out HP.out HV.out h0)
        clear HA HB HP HV HE4 h0
        have HKy := Lib.hid (rk_grown HK6.out (grown_drw w6))
        have d2 := rf_e HKy.out.rd
        have hst := run_storeState (cs := #[.int .u64 0, .int .u64 0, .int .i32 0, .int .i32 0, .int .i32 0, .int .i32 0, .int .u8 0, .int .u8 0, .int .u8 0, .int .i32 0, .int .i32 0, .int .i32 0, .int .i32 0, .int .u8 0, .int .u8 0, .int .u8 0, .slice none 0 0, .int .u16 0, .int .u16 0]) HKy.out.re rfl rfl (by simp [Value.oneCell'])
        have d2s : (w6.drew.setRow w.heap.size #[.int .u64 0, .int .u64 0, .int .i32 0, .int .i32 0, .int .i32 0, .int .i32 0, .int .u8 0, .int .u8 0, .int .u8 0, .int .i32 0, .int .i32 0, .int .i32 0, .int .i32 0, .int .u8 0, .int .u8 0, .int .u8 0, .slice none 0 0, .int .u16 0, .int .u16 0]).cell? ⟨w.heap.size + 1, 2, none⟩ = some (.int .i64 e4) := rf_e (rf_on HKy.out.rd (grown_setRow _ _ _) (by simp))
        go_wp2_with fail
        go_region_law (fail)
        all_goals
          go_wp2
          have HRZ := setRow_heap w6.drew w.heap.size _ (stc .zero none 0) _ _ HKy.out.re
          refine bodyPost_ret (shut_two _ e4 _ Tryz.results75 HRZ rfl rfl rfl) rfl ?_
          exact HE.out _ (grown_of_below (below_setRow HKy.out.be (Nat.le_refl _) _))
theorem refTake_c (l : List UInt8) (w : World) (hl : l.length ≤ 1099511627776) : Calls Tryz.prog 75 #[.string (str l)] w (TkPost l w) :=
  refTakeQ l w hl _ (fun _ _ h => h)
end Go.Proofs.YtacgmadgkmcmoaaGreatDoor
