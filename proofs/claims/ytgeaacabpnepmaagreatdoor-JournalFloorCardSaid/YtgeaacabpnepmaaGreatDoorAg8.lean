/- Texts of the walk. -/
import Derived.Test.YtgeaacabpnepmaaGreatDoorBd8
import Derived.RangeFuncNested
import Derived.RangeFuncBound
import Derived.RangeFuncCalls
import Derived.RangeFuncLeaves
import Derived.RangeFuncBox
import Derived.Shelf.Abstract
import Derived.Shelf.RegionOpen
import Derived.WalkKit
import Derived.OwnWalkIn
import Derived.TacticsInMore
import Derived.LoopNIn
import Derived.LoopIn
import Derived.Maps.AppendAt
import Derived.Test.YtgeaacabpnepmaaGreatDoorAf8
/- A record taken among the contents of a segment: the choice of what is done with it; add. -/
namespace Go.Proofs.YtgeaacabpnepmaaGreatDoor
open Go.RowKit
set_option linter.unusedVariables false
set_option linter.unusedSimpArgs false
set_option maxRecDepth 20000

theorem goes_in {P : Program} {f : FuncId} {fn : Func} {c : Code} (hf : P.funcs[f]? = some fn) (hname : (fn.name == "runtime.NumGoroutine") = false) (hb : fn.body = some c) : ∀ (args : Array Value) (w : World), (callFunc f args).run P w = .ok (.enter f args) w := fun args w => by
  have h1 : fn.name ≠ "runtime.NumGoroutine" := by simpa using hname
  simp [callFunc, hf, h1, hb]
def deedOf (k : Int) : FuncId := if k = 1 then 281 else if k = 2 then 282 else 283
theorem deed_in (k : Int) : ∀ (args : Array Value) (w : World), (callFunc (deedOf k) args).run Tryz.prog w = .ok (.enter (deedOf k) args) w := by
  unfold deedOf
  split
  · exact goes_in Tryz.func281 (by kernel_rfl) rfl
  · split
    · exact goes_in Tryz.func282 (by kernel_rfl) rfl
    · exact goes_in Tryz.func283 (by kernel_rfl) rfl
theorem deed_c (g : Nat) (k : Int) (w : World) : Calls Tryz.prog 246 #[.pointer (some ⟨g, 0, none⟩), .int .i64 k] w fun E w' => E = .returned (.func (.func (deedOf k)) #[.pointer (some ⟨g, 0, none⟩)] #[]) ∧ w = w' := by
  have hmf : ∀ (fn : Fn) (first cap : Array Value) (w : World), (Instr.makeFunc fn first cap).run Tryz.prog w = .ok (.func fn first cap) w := fun _ _ _ _ => rfl
  unfold deedOf
  by_cases h1 : k = 1
  · subst h1
    rw [if_pos rfl]
    go_enter Tryz.func246, Tryz.ntmps246
    go_wp2
    go_ret
    exact ⟨rfl, rfl⟩
  · by_cases h2 : k = 2
    · subst h2
      rw [if_neg (by decide), if_pos rfl]
      go_enter Tryz.func246, Tryz.ntmps246
      go_wp2
      go_ret
      exact ⟨rfl, rfl⟩
    · rw [if_neg h1, if_neg h2]
      have g1 : (k == 1) = false := beq_eq_false_iff_ne.2 h1
      have g2 : (k == 2) = false := beq_eq_false_iff_ne.2 h2
      go_enter Tryz.func246, Tryz.ntmps246
      go_wp2
      go_ret
      exact ⟨rfl, rfl⟩
attribute [local go_sem ↓] ld_rec ld_int
set_option maxHeartbeats 1000000 in
theorem add_order {g n : Nat} {x : Sg} {v : List Nat} {ao : Option Addr} {cap : Nat} {r : Rc} {w : World} (h : CtC w g n x v ao cap) (hb : (x.h.k = 3 ∧ r.k = 3) ∨ (x.h.k ≠ 3 ∧ r.k ≠ 3)) :
    Calls Tryz.prog 212 #[.pointer (some ⟨g, 0, none⟩), .agg (rcs r)] w fun E w' => E = .returned (.int .i64 11) ∧ Below w.heap.size w w' := by
  rcases hb with ⟨h1, h2⟩ | ⟨h1, h2⟩
  · have H0 := Lib.hid ((Loc.hold h.blk).more 114 (rcs r))
    have HB := Lib.hid (below_alloc w (.cells (rcs r) 114))
    have g1 : (x.h.k != 3) = false := by rw [bne_eq_false_iff_eq]; exact h1
    have g2 : (r.k == 3) = true := by rw [beq_iff_eq]; exact h2
    clear h1 h2
    go_enter Tryz.func212, Tryz.ntmps212
    go_upto_region 1 with fail
    generalize w.alloc (.cells (rcs r) 114) = wa at *
    have l1 := H0.out.ldO ty_int 0 rfl 1 (v := .int .i64 x.h.k) (ccs1 n x v ao cap)
    have l2 := H0.out.ldO ty_int 1 rfl 0 (v := .int .i64 r.k) rfl
    go_wp2
    go_ret
    exact ⟨rfl, HB.out⟩
  · have H0 := Lib.hid ((Loc.hold h.blk).more 114 (rcs r))
    have HB := Lib.hid (below_alloc w (.cells (rcs r) 114))
    have g1 : (x.h.k != 3) = true := by rw [bne_iff_ne]; exact h1
    have g2 : (r.k == 3) = false := by rw [beq_eq_false_iff_ne]; exact h2
    clear h1 h2
    go_enter Tryz.func212, Tryz.ntmps212
    go_upto_region 1 with fail
    generalize w.alloc (.cells (rcs r) 114) = wa at *
    have l1 := H0.out.ldO ty_int 0 rfl 1 (v := .int .i64 x.h.k) (ccs1 n x v ao cap)
    have l2 := H0.out.ldO ty_int 1 rfl 0 (v := .int .i64 r.k) rfl
    go_wp2
    go_ret
    exact ⟨rfl, HB.out⟩
set_option maxHeartbeats 1000000 in
theorem add_do {g n : Nat} {x : Sg} {v : List Nat} {ao : Option Addr} {cap : Nat} {r : Rc} {w : World} {Q : Ending → World → Prop} (h : CtC w g n x v ao cap) (hb : (x.h.k = 3 ∧ r.k ≠ 3) ∨ (x.h.k ≠ 3 ∧ r.k = 3))
    (hQ : ∀ w1, Below w.heap.size w w1 → Calls Tryz.prog (deedOf r.k) #[.pointer (some ⟨g, 0, none⟩), .agg (rcs r)] w1 fun E w2 => ∃ c : Int, E = .returned (.int .i64 c) ∧ Q E w2) :
    Calls Tryz.prog 212 #[.pointer (some ⟨g, 0, none⟩), .agg (rcs r)] w Q := by
  have HQ := Lib.hid hQ
  clear hQ
  rcases hb with ⟨h1, h2⟩ | ⟨h1, h2⟩
  · have H0 := Lib.hid ((Loc.hold h.blk).more 114 (rcs r))
    have HB := Lib.hid (below_alloc w (.cells (rcs r) 114))
    have g1 : (x.h.k != 3) = false := by rw [bne_eq_false_iff_eq]; exact h1
    have g2 : (r.k == 3) = false := by rw [beq_eq_false_iff_ne]; exact h2
    clear h1 h2
    go_enter Tryz.func212, Tryz.ntmps212
    go_upto_region 1 with fail
    generalize w.alloc (.cells (rcs r) 114) = wa at *
    have l1 := H0.out.ldO ty_int 0 rfl 1 (v := .int .i64 x.h.k) (ccs1 n x v ao cap)
    have l2 := H0.out.ldO ty_int 1 rfl 0 (v := .int .i64 r.k) rfl
    go_upto_region 4 with fail
    clear l1 l2
    obtain ⟨wd, hwd⟩ : ∃ wd, ({ wa with drawn := wa.drawn + 1 } : World) = wd := ⟨_, rfl⟩
    have H1 : Hid (Loc g w wd [(g, 280, ccs n x v ao cap), (w.heap.size, 114, rcs r)]) := by show Loc _ _ _ _; rw [← hwd]; exact H0.out.drew
    have HB1 : Hid (Below w.heap.size w wd) := by show Below _ _ _; rw [← hwd]; exact HB.out.drew
    have l2 := H1.out.ldO ty_int 1 rfl 0 (v := .int .i64 r.k) rfl
    have l3 := H1.out.ldA ty_rec 1 rfl 0 (vs := rcs r) (by simp [rcs]) (Nat.le_of_ble_eq_true rfl)
    have HD := Lib.hid (deed_c g r.k wd)
    have HI := deed_in r.k
    obtain ⟨D, hD⟩ : ∃ D, D = deedOf r.k := ⟨_, rfl⟩
    rw [← hD] at HD HI HQ
    clear hD
    refine wp_region_still_tail 5 (by kernel_rfl) (by kernel_rfl) ?_
    simp only [List.take_succ_cons, List.take_zero, List.drop_succ_cons, List.drop_zero]
    rw [hwd]
    clear hwd
    repeat still_step
    still_call (HD.out.mono fun _ _ ⟨h1, h2⟩ => ⟨h1, h2.symm⟩)
    repeat still_step
    refine wpStill_nil ?_
    clear g1 g2
    go_wp2_with fail
    refine (HQ.out wd HB1.out).mono ?_
    rintro E w2 ⟨c, rfl, hE2⟩
    have HE := Lib.hid hE2
    clear hE2
    go_wp2
    exact HE.out
  · have H0 := Lib.hid ((Loc.hold h.blk).more 114 (rcs r))
    have HB := Lib.hid (below_alloc w (.cells (rcs r) 114))
    have g1 : (x.h.k != 3) = true := by rw [bne_iff_ne]; exact h1
    have g2 : (r.k == 3) = true := by rw [beq_iff_eq]; exact h2
    clear h1 h2
    go_enter Tryz.func212, Tryz.ntmps212
    go_upto_region 1 with fail
    generalize w.alloc (.cells (rcs r) 114) = wa at *
    have l1 := H0.out.ldO ty_int 0 rfl 1 (v := .int .i64 x.h.k) (ccs1 n x v ao cap)
    have l2 := H0.out.ldO ty_int 1 rfl 0 (v := .int .i64 r.k) rfl
    go_upto_region 4 with fail
    clear l1 l2
    obtain ⟨wd, hwd⟩ : ∃ wd, ({ wa with drawn := wa.drawn + 1 } : World) = wd := ⟨_, rfl⟩
    have H1 : Hid (Loc g w wd [(g, 280, ccs n x v ao cap), (w.heap.size, 114, rcs r)]) := by show Loc _ _ _ _; rw [← hwd]; exact H0.out.drew
    have HB1 : Hid (Below w.heap.size w wd) := by show Below _ _ _; rw [← hwd]; exact HB.out.drew
    have l2 := H1.out.ldO ty_int 1 rfl 0 (v := .int .i64 r.k) rfl
    have l3 := H1.out.ldA ty_rec 1 rfl 0 (vs := rcs r) (by simp [rcs]) (Nat.le_of_ble_eq_true rfl)
    have HD := Lib.hid (deed_c g r.k wd)
    have HI := deed_in r.k
    obtain ⟨D, hD⟩ : ∃ D, D = deedOf r.k := ⟨_, rfl⟩
    rw [← hD] at HD HI HQ
    clear hD
    refine wp_region_still_tail 5 (by kernel_rfl) (by kernel_rfl) ?_
    simp only [List.take_succ_cons, List.take_zero, List.drop_succ_cons, List.drop_zero]
    rw [hwd]
    clear hwd
    repeat still_step
    still_call (HD.out.mono fun _ _ ⟨h1, h2⟩ => ⟨h1, h2.symm⟩)
    repeat still_step
    refine wpStill_nil ?_
    clear g1 g2
    go_wp2_with fail
    refine (HQ.out wd HB1.out).mono ?_
    rintro E w2 ⟨c, rfl, hE2⟩
    have HE := Lib.hid hE2
    clear hE2
    go_wp2
    exact HE.out
theorem add_c {g n : Nat} {x : Sg} {v : List Nat} {ao : Option Addr} {cap : Nat} {r : Rc} {w : World} (h : CtC w g n x v ao cap) (hf : r.fit) (hm : mayB r = true) (hfw : x.l.length < 1000000) :
    Calls Tryz.prog 212 #[.pointer (some ⟨g, 0, none⟩), .agg (rcs r)] w fun E w' => E = .returned (.int .i64 (tkS n x r)) ∧ CtE w' g n (if tkS n x r = 0 then adS x r else x) ∧ Below g w w' := by
  have hgl := h.blk.lt
  have bad : ∀ {e : Int}, tkS n x r = e → e ≠ 0 → (∀ E w', (E = .returned (.int .i64 e) ∧ Below w.heap.size w w') → (E = Ending.returned (.int .i64 (tkS n x r)) ∧ CtE w' g n (if tkS n x r = 0 then adS x r else x) ∧ Below g w w')) := by
    rintro e he h0 E w' ⟨rfl, hb⟩
    rw [he, if_neg h0]
    exact ⟨rfl, ⟨v, ao, cap, h.to hb⟩, hb.mono (Nat.le_of_lt hgl)⟩
  by_cases hxb : x.b = true
  · obtain ⟨hk3, hy2, hs, _⟩ := h.okg.hb hxb
    by_cases k3 : r.k = 3
    · have ht : tkS n x r = 11 := by unfold tkS; rw [if_pos k3, if_pos (.inl hxb)]
      exact (add_order h (.inl ⟨hk3, k3⟩)).mono fun E w' he => bad ht (by decide) E w' he
    · refine add_do h (.inl ⟨hk3, k3⟩) fun w1 hb1 => ?_
      have h1 := h.to hb1
      by_cases k1 : r.k = 1
      · have hd : deedOf r.k = 281 := by unfold deedOf; rw [if_pos k1]
        rw [hd]
        by_cases hc : r.f ≠ x.o ∨ 12 ≤ x.o - x.c ∨ r.f = 18446744073709551615
        · have ht : tkS n x r = 11 := by unfold tkS; rw [if_neg k3, if_neg (by rw [hxb]; decide), if_pos k1, if_pos hc]
          exact (own_bad h1 hf hc).mono fun E w' ⟨he, hb⟩ => ⟨11, he, bad ht (by decide) E w' ⟨he, hb1.trans (hb.mono hb1.size)⟩⟩
        · have ht : tkS n x r = 0 := by unfold tkS; rw [if_neg k3, if_neg (by rw [hxb]; decide), if_pos k1, if_neg hc]
          have ha : adS x r = ⟨x.b, x.h, x.l ++ [r], x.c, x.o + 1⟩ := by unfold adS; rw [if_neg k3, if_pos k1]
          have hg := okg_ad h.okg hf hm ht
          have hi := (inps_ad h.okg h.inp hm ht).1 k1
          refine (own_ok h1 hf (by omega) (by omega) (by omega) hfw).mono fun E w' ⟨he, a', c', hc', hr', hb⟩ => ⟨0, he, ?_⟩
          rw [ht, if_pos rfl]
          rw [ha] at hg hi ⊢
          exact ⟨he, ⟨_, a', c', hc', hr', hg, hi, by show (x.l ++ [r]).length ≤ _; simp; omega⟩, (hb1.mono (Nat.le_of_lt hgl)).trans hb⟩
      · have k2 : r.k = 2 := by have := may_k hm; omega
        have hd : deedOf r.k = 282 := by unfold deedOf; rw [if_neg k1, if_pos k2]
        rw [hd]
        by_cases hc : r.f ≠ x.c ∨ x.o ≤ x.c
        · have ht : tkS n x r = 11 := by unfold tkS; rw [if_neg k3, if_neg (by rw [hxb]; decide), if_neg k1, if_pos hc]
          exact (sure_bad h1 hf hc).mono fun E w' ⟨he, hb⟩ => ⟨11, he, bad ht (by decide) E w' ⟨he, hb1.trans (hb.mono hb1.size)⟩⟩
        · have hy : x.h.y = 0 ∨ x.h.y = 1 := by omega
          have ha : adS x r = ⟨x.b, x.h, x.l ++ [r], x.c + 1, x.o⟩ := by unfold adS; rw [if_neg k3, if_neg k1]
          by_cases hs : side r x.h.y = inp x.l r.f
          · have ht : tkS n x r = 0 := by unfold tkS; rw [if_neg k3, if_neg (by rw [hxb]; decide), if_neg k1, if_neg hc, if_neg (fun h => h hs)]
            have hg := okg_ad h.okg hf hm ht
            have hi := (inps_ad h.okg h.inp hm ht).2 k1
            have fin : ∀ E w', (E = Ending.returned (.int .i64 0) ∧ ∃ a' c', Cells w' g 280 (ccs n ⟨x.b, x.h, x.l ++ [r], (x.c + 1), x.o⟩ v a' c') ∧ w'.ownsRow (g + 1) 114 9 (.slice a' (x.l ++ [r]).length c') (x.l ++ [r]).length (Rall (x.l ++ [r])) ∧ Below g w1 w') →
                ∃ c : Int, E = .returned (.int .i64 c) ∧ (E = Ending.returned (.int .i64 (tkS n x r)) ∧ CtE w' g n (if tkS n x r = 0 then adS x r else x) ∧ Below g w w') := by
              rintro E w' ⟨he, a', c', hc', hr', hb⟩
              refine ⟨0, he, ?_⟩
              rw [ht, if_pos rfl]
              rw [ha] at hg hi ⊢
              exact ⟨he, ⟨_, a', c', hc', hr', hg, hi, by show (x.l ++ [r]).length ≤ _; simp; omega⟩, (hb1.mono (Nat.le_of_lt hgl)).trans hb⟩
            rcases hy with hy | hy
            · exact (sure_ok0 h1 hf (by omega) (by omega) hy (by rw [← hs, hy]; rfl) hfw).mono fin
            · exact (sure_ok1 h1 hf (by omega) (by omega) hy (by rw [← hs, hy]; rfl) hfw).mono fin
          · have ht : tkS n x r = 14 := by unfold tkS; rw [if_neg k3, if_neg (by rw [hxb]; decide), if_neg k1, if_neg hc, if_pos hs]
            have fin : ∀ E w', (E = Ending.returned (.int .i64 14) ∧ Below w1.heap.size w1 w') → ∃ c : Int, E = .returned (.int .i64 c) ∧ (E = Ending.returned (.int .i64 (tkS n x r)) ∧ CtE w' g n (if tkS n x r = 0 then adS x r else x) ∧ Below g w w') :=
              fun E w' ⟨he, hb⟩ => ⟨14, he, bad ht (by decide) E w' ⟨he, hb1.trans (hb.mono hb1.size)⟩⟩
            rcases hy with hy | hy
            · exact (sure_clash0 h1 hf (by omega) (by omega) hy (by rw [hy] at hs; exact hs) hfw).mono fin
            · exact (sure_clash1 h1 hf (by omega) (by omega) hy (by rw [hy] at hs; exact hs) hfw).mono fin
  · have hxb' : x.b = false := by cases hx : x.b <;> simp_all
    obtain ⟨hrz, hl0, _, _⟩ := h.okg.nb hxb'
    have hk0 : x.h.k ≠ 3 := by rw [hrz]; decide
    by_cases k3 : r.k = 3
    · refine add_do h (.inr ⟨hk0, k3⟩) fun w1 hb1 => ?_
      have h1 := h.to hb1
      have hd : deedOf r.k = 283 := by unfold deedOf; rw [if_neg (by omega), if_neg (by omega)]
      rw [hd]
      by_cases hs : r.s = n
      · have ht : tkS n x r = 0 := by unfold tkS; rw [if_pos k3, if_neg (by rintro (h | h); exact hxb h; exact h hs)]
        have ha : adS x r = ⟨true, r, x.l, r.i, r.i⟩ := by unfold adS; rw [if_pos k3]
        have hg := okg_ad h.okg hf hm ht
        have hi := (inps_ad h.okg h.inp hm ht).2 (by omega)
        refine (begin_ok h1 hs).mono fun E w' ⟨he, hc', htu⟩ => ⟨0, he, ?_⟩
        rw [ht, if_pos rfl]
        rw [ha] at hg hi ⊢
        exact ⟨he, ⟨_, _, _, hc', row_tu h1.row htu fun y hy e => by have := (h.row.lt y hy).1; omega, hg, hi, h.few⟩, (hb1.mono (Nat.le_of_lt hgl)).trans (htu.below (fun y hy e => by omega) (Nat.le_of_lt h1.blk.lt))⟩
      · have ht : tkS n x r = 11 := by unfold tkS; rw [if_pos k3, if_pos (.inr hs)]
        exact (begin_bad h1 hs).mono fun E w' ⟨he, hb⟩ => ⟨11, he, bad ht (by decide) E w' ⟨he, hb1.trans (hb.mono hb1.size)⟩⟩
    · have ht : tkS n x r = 11 := by unfold tkS; rw [if_neg k3, if_pos hxb']
      exact (add_order h (.inr ⟨hk0, k3⟩)).mono fun E w' he => bad ht (by decide) E w' he
end Go.Proofs.YtgeaacabpnepmaaGreatDoor
/- Texts of elder layers, one behind the other. -/
/- The range function 'frames': what it hands back, and its contract: it goes through the items of the bytes, for every loop's body that keeps what lay ahead of it. -/
namespace Go.Proofs.YtgeaacabpnepmaaGreatDoor
open Go.RowKit Go.Shelf
set_option linter.unusedVariables false
attribute [local go_sem] Oper.semAt_some

abbrev encs (x : Item) : Array Value := #[.string (str x.p), .int .i64 x.e]
theorem frames_c (s : List UInt8) (w : World) :
    Calls Tryz.prog 277 #[.string (str s)] w fun E w' => E = .returned (.func (.func 304) #[] #[.pointer (some ⟨w.heap.size, 0, none⟩)]) ∧ w.alloc (.cells #[.string (str s)] 9) = w' := by
  go_enter Tryz.func277, Tryz.ntmps277
  go_wp2
  go_ret
  exact ⟨rfl, rfl⟩
theorem str_empty (l : List UInt8) (h : l ≠ []) : ((str l).toList == []) = false := by rw [str_toList]; simpa using h
theorem str_empty0 : ((str []).toList == []) = true := by rw [str_toList]; rfl
def FrmRel (s : List UInt8) (J : List Item → World → Prop) (v : Value) (wr : World) : Prop :=
  ∃ (pre : List Item) (l : List UInt8), v = .string (str l) ∧ l.length ≤ s.length ∧ items s = pre ++ items l ∧ Tab wr ∧ J pre wr
def strLen : Value → Nat
  | .string b => b.size
  | _ => 0

set_option maxRecDepth 100000 in
set_option maxHeartbeats 2000000 in
theorem frames1_in (n : Nat) (hn : 1 ≤ n) (l0 Bn n₀ : Nat) (s : List UInt8) (hs : s.length ≤ 1099511627776) (h₀ : 1 < n₀) (J Jx : List Item → World → Prop)
    (W : World) (hJ : AbidesFrom W.heap.size J)
    (hY : ∀ pre x W, J pre W → pre.length < (items s).length → YieldAt Fence.wide (n - 1) Tryz.prog l0 (encs x) W fun e W' =>
      (e = .returned (.bool true) ∧ J (pre ++ [x]) W' ∧ Below n₀ W W') ∨ (e = .returned (.bool false) ∧ Jx (pre ++ [x]) W'))
    (hBn : W.cell? ⟨Bn, 0, none⟩ = some (.string (str s))) (ht : Tab W) (h0 : J [] W) :
    CallsIn Fence.wide n Tryz.prog 304 #[.func (.yield l0) #[] #[], .pointer (some ⟨Bn, 0, none⟩)] W fun e W' => (∃ v, e = .returned v) ∧
      ((∃ ys, ys = items s ∧ J ys W') ∨ (∃ pre, pre <+: items s ∧ Jx pre W')) := by
  have HJ := Lib.hid hJ
  have HY := Lib.hid hY
  have H0 := Lib.hid h0
  have HT := Lib.hid ht
  clear hJ hY h0 ht
  refine callsIn_of_wp Tryz.func304 rfl trivial ?_ rfl
  simp only [Tryz.ntmps304, List.size_toArray, List.length_cons, List.length_nil, Nat.reduceAdd, Nat.reduceSub, Array.replicate_succ, Array.replicate_zero, List.push_toArray, List.append_toArray, List.nil_append, List.cons_append]
  gi_wp2
  gi_loopw [3] (fun v wr => FrmRel s J v wr) (fun v _ => strLen v)
  case atStart => exact ⟨[], s, rfl, Nat.le_refl _, rfl, HT.out, H0.out⟩
  case round =>
    obtain ⟨pre, l, rfl, hl, hx, htr, hJs⟩ := hrel
    have HX := Lib.hid hx
    have HTR := Lib.hid htr
    have HJS := Lib.hid hJs
    clear hx htr hJs
    by_cases hl0 : l = []
    · subst hl0
      have hq := str_empty0
      gi_wp2
      go_end0
      exact ⟨⟨_, rfl⟩, .inl ⟨pre, by rw [HX.out, items_nil, List.append_nil], HJS.out⟩⟩
    · have hq := str_empty l hl0
      obtain ⟨r, hr⟩ := items_first hl0
      have HR := Lib.hid hr
      have HN : Hid (pre.length < (items s).length) := by show _ < _; rw [HX.out, hr]; simp
      have HS : Hid (fe l = 0 → 6 + (fp l).length ≤ l.length) := fun h => fp_room h
      have hpl := fp_len l
      have hsz := str_size l
      have hl40 : l.length ≤ 1099511627776 := by omega
      clear hr
      gi_wp2
      refine ⟨trivial, (callsIn_wide.2 (ffirst_c l _ hl40 HTR.out)).mono ?_⟩
      rintro E w1 ⟨rfl, hg1⟩
      have HT1 := Lib.hid (tab_grown HTR.out hg1)
      have HJ1 := Lib.hid (HJ.out pre wr w1 none HJS.out hg1 (fun r e => by cases e))
      clear hg1
      obtain ⟨fn0, tmps, assign, body, hy, hR⟩ := HY.out pre ⟨fp l, fe l, hpl⟩ w1 HJ1.out HN.out
      dsimp only [encs] at hy
      by_cases he : fe l = 0
      · have HE := Lib.hid he
        have hr := HS.out he
        have hd := str_rest l (6 + (fp l).length)
        rw [he] at hy
        gi_wp2
        refine hR.mono ?_
        rintro E w2 (⟨rfl, hJ2, hk2⟩ | ⟨rfl, hJx2⟩)
        · have HT2 := Lib.hid (tab_b HT1.out h₀ hk2)
          have HIT := Lib.hid (items_ok he)
          have hst : ((6 + (fp l).length : Nat) : Int).toNat = 6 + (fp l).length := by omega
          gi_wp2
          refine ⟨trivial, (callsIn_wide.2 (size_c (fp l) _ (by omega))).mono ?_⟩
          rintro E w3 ⟨rfl, rfl⟩
          have i1 : ((6 + (fp l).length : Nat) : Int) ≤ (l.length : Int) := by omega
          have HQ := Lib.hid (show 6 ≤ 6 + (fp l).length from by omega)
          generalize 6 + (fp l).length = q at *
          gi_wp2
          go_roundw
          case rel =>
            refine ⟨pre ++ [⟨fp l, fe l, hpl⟩], l.drop q, rfl, by rw [List.length_drop]; omega, ?_, HT2.out, hJ2⟩
            rw [HX.out, HIT.out]
            simp [he]
          case measure =>
            have := HQ.out
            show (str (l.drop q)).size < (str l).size
            rw [str_size, str_size, List.length_drop]; omega
        · gi_wp2
          refine bodyPost_ret (results_none rfl _ _ _) rfl ?_
          exact ⟨⟨_, rfl⟩, .inr ⟨pre ++ [⟨fp l, fe l, hpl⟩], ⟨r, by rw [HX.out, HR.out]; simp⟩, hJx2⟩⟩
      · have hb : (fe l == 0) = false := beq_eq_false_iff_ne.2 he
        have HIT := Lib.hid (items_bad hl0 he)
        have HE := Lib.hid he
        clear he
        gi_wp2
        refine hR.mono ?_
        rintro E w2 (⟨rfl, hJ2, hk2⟩ | ⟨rfl, hJx2⟩)
        · gi_wp2
          refine bodyPost_ret (results_none rfl _ _ _) rfl ?_
          exact ⟨⟨_, rfl⟩, .inl ⟨pre ++ [⟨fp l, fe l, hpl⟩], by rw [HX.out, HIT.out], hJ2⟩⟩
        · gi_wp2
          refine bodyPost_ret (results_none rfl _ _ _) rfl ?_
          exact ⟨⟨_, rfl⟩, .inr ⟨pre ++ [⟨fp l, fe l, hpl⟩], ⟨r, by rw [HX.out, HR.out]; simp⟩, hJx2⟩⟩
end Go.Proofs.YtgeaacabpnepmaaGreatDoor
/- frame.Next: the first item of the range function. -/
namespace Go.Proofs.YtgeaacabpnepmaaGreatDoor
open Go.RowKit Go.Shelf
set_option linter.unusedVariables false
attribute [local go_sem] Oper.semAt_some

theorem frames_stops (n : Nat) (hn : 1 ≤ n) (Bn n₀ : Nat) (s : List UInt8) (w : World) (hs : s.length ≤ 1099511627776) (h₀ : 1 < n₀) (hBn : Bn < w.heap.size) (hn₀ : n₀ ≤ w.heap.size)
    (hc : w.cell? ⟨Bn, 0, none⟩ = some (.string (str s))) (ht : Tab w) :
    SeqStopsK Fence.wide n Tryz.prog 304 #[.pointer (some ⟨Bn, 0, none⟩)] encs (Below n₀) (fun ys => ys = items s) (fun pre => pre <+: items s) (items s).length w := fun l J Jx W hW hJ _ hY h0 =>
  frames1_in n hn l Bn n₀ s hs h₀ J Jx W hJ hY ((hW.cell (p := ⟨Bn, 0, none⟩) hBn).trans hc) (tab_below ht hW) h0
def Box3 (W : World) (B : Nat) (t0 : TypeId) (v0 v1 v2 : Value) : Prop := Boxed W B t0 v0 ∧ Boxed W (B + 1) 3 v1 ∧ Boxed W (B + 1 + 1) 53 v2
theorem box3_kept {W W' : World} {B : Nat} {t0 : TypeId} {v0 v1 v2 : Value} {row : Option Nat} (h : Box3 W B t0 v0 v1 v2) (hg : W.grownBy W' row)
    (hr : ∀ r, row = some r → ∃ o : Obj, W.heap[r]? = some o ∧ o.isCells = false) : Box3 W' B t0 v0 v1 v2 := by
  have key : ∀ {b : Nat} {t : TypeId} {v : Value}, Boxed W b t v → Boxed W' b t v := fun hb => hb.kept hg (fun e => by
    obtain ⟨o, ho, hc⟩ := hr _ e.symm
    rw [show W.heap[_]? = _ from hb] at ho; cases ho; cases hc)
  exact ⟨key h.1, key h.2.1, key h.2.2⟩
theorem box3_new (w : World) (t0 : TypeId) (v0 v1 v2 : Value) :
    Box3 (((w.alloc (.cells #[v0] t0)).alloc (.cells #[v1] 3)).alloc (.cells #[v2] 53)) w.heap.size t0 v0 v1 v2 := by
  have b0 := Boxed.new w t0 v0
  have b1 := Boxed.new (w.alloc (.cells #[v0] t0)) 3 v1
  have b2 := Boxed.new ((w.alloc (.cells #[v0] t0)).alloc (.cells #[v1] 3)) 53 v2
  simp only [World.size_alloc] at b1 b2
  exact ⟨(b0.alloc _).alloc _, b1.alloc _, b2⟩
theorem box3_set {W : World} {B : Nat} {t0 : TypeId} {v0 v1 v2 : Value} (h : Box3 W B t0 v0 v1 v2) (u0 u1 u2 : Value) :
    Box3 (((W.setCell ⟨B, 0, none⟩ u0).setCell ⟨B + 1, 0, none⟩ u1).setCell ⟨B + 1 + 1, 0, none⟩ u2) B t0 u0 u1 u2 :=
  ⟨((h.1.set u0).other (by omega) _).other (by omega) _, ((h.2.1.other (by omega) _).set u1).other (by omega) _, ((h.2.2.other (by omega) _).other (by omega) _).set u2⟩
theorem keeps3 (W : World) (B C D : Nat) (u0 u1 u2 : Value) : KeepsOthers W (((W.setCell ⟨B, 0, none⟩ u0).setCell ⟨C, 0, none⟩ u1).setCell ⟨D, 0, none⟩ u2) :=
  ((KeepsOthers.setCell _ _ _).trans (KeepsOthers.setCell _ _ _)).trans (KeepsOthers.setCell _ _ _)
theorem below3 {W : World} {n₀ B : Nat} (h : n₀ ≤ B) (u0 u1 u2 : Value) : Below n₀ W (((W.setCell ⟨B, 0, none⟩ u0).setCell ⟨B + 1, 0, none⟩ u1).setCell ⟨B + 1 + 1, 0, none⟩ u2) :=
  (((Below.refl n₀ W).setCell (p := ⟨B, 0, none⟩) h _).setCell (p := ⟨B + 1, 0, none⟩) (Nat.le_succ_of_le h) _).setCell (p := ⟨B + 1 + 1, 0, none⟩) (Nat.le_succ_of_le (Nat.le_succ_of_le h)) _
def nextP (x : Item) : List UInt8 := if x.e = 0 then x.p else []
def nextN (x : Item) : Nat := if x.e = 0 then 6 + x.p.length else 0
def NextI (w : World) (pre : List Item) (W : World) : Prop := (pre = [] ∧ Box3 W w.heap.size 9 (.string (str [])) (.int .i64 0) (.int .i64 0)) ∧ Below w.heap.size w W
def NextX (w : World) (c : Code) (pre : List Item) (W : World) : Prop :=
  (c = .ret ∧ ∃ x : Item, pre = [x] ∧ Box3 W w.heap.size 9 (.string (str (nextP x))) (.int .i64 (nextN x)) (.int .i64 x.e)) ∧ Below w.heap.size w W
theorem nextI_own (w : World) {B : Nat} (hB : w.heap.size ≤ B) : OwnFrom B (NextI w) :=
  OwnFrom.and (Own.from (fun s A B row hs hg hr => ⟨hs.1, box3_kept hs.2 hg hr⟩) _) (ownFrom_below (Nat.le_refl _) hB)
theorem nextX_own (w : World) (c : Code) {B : Nat} (hB : w.heap.size ≤ B) : OwnFrom B (NextX w c) :=
  OwnFrom.and (Own.from (fun s A B row hs hg hr => by obtain ⟨h, x, hx, hb⟩ := hs; exact ⟨h, x, hx, box3_kept hb hg hr⟩) _) (ownFrom_below (Nat.le_refl _) hB)

set_option maxRecDepth 100000 in
set_option maxHeartbeats 2000000 in
theorem next_c (s : List UInt8) (w : World) (hs : s.length ≤ 1099511627776) (ht : Tab w) :
    Calls Tryz.prog 241 #[.string (str s)] w fun E w' => E = .returned (.tuple #[.string (str (fp s)), .int .i64 (fu s), .int .i64 (fe s)]) ∧ Below w.heap.size w w' := by
  have HT := Lib.hid ht
  have H0 := Lib.hid ht.1
  clear ht
  refine (callsIn_wide (n := 9)).1 ?_
  refine callsIn_of_wp_marks Tryz.func241 rfl trivial ?_ rfl
  simp only [Tryz.ntmps241, List.size_toArray, List.length_cons, List.length_nil, Nat.reduceAdd, Nat.reduceSub, Array.replicate_succ, Array.replicate_zero, List.push_toArray, List.append_toArray, List.nil_append, List.cons_append]
  gi_wp2
  refine ⟨trivial, (callsIn_wide.2 (frames_c s _)).mono ?_⟩
  rintro E w1 ⟨rfl, hw1⟩
  gi_wp2
  have hsz1 : w1.heap.size = w.heap.size + 4 := by rw [← hw1]; simp
  have hB1 : Below w.heap.size w w1 := by
    rw [← hw1]; exact ((((Below.refl _ w).alloc (Nat.le_refl _) _).alloc (by simp) _).alloc (by simp; omega) _).alloc (by simp; omega) _
  have hc1 : w1.cell? ⟨w.heap.size + 1 + 1 + 1, 0, none⟩ = some (.string (str s)) := by
    have := (Boxed.new (((w.alloc (.cells #[.string (str [])] 9)).alloc (.cells #[.int .i64 0] 3)).alloc (.cells #[.int .i64 0] 53)) 9 (.string (str s))).cell
    simp only [World.size_alloc] at this
    rw [← hw1]; exact this
  have hb1 : Box3 w1 w.heap.size 9 (.string (str [])) (.int .i64 0) (.int .i64 0) := by
    rw [← hw1]; exact box3_kept (box3_new w 9 _ _ _) (World.grownBy_alloc _ _ none) (by simp)
  have ht1 : Tab w1 := tab_b HT.out H0.out hB1
  clear hw1
  refine wpIn_rangeFunc_ownF rfl (by omega) (gf := 304) (lb := #[.pointer (some ⟨w.heap.size + 1 + 1 + 1, 0, none⟩)]) rfl trivial (enters_of Tryz.func304 (by kernel_rfl) rfl)
    (frames_stops (9 - 1) (by omega) (w.heap.size + 1 + 1 + 1) w.heap.size s w1 hs H0.out (by omega) (by omega) hc1 ht1) belowK_t (belowK_b (by omega)) (Below.refl _ _) (fun _ => rfl)
    (NextI w) (NextX w) (nextI_own w (by omega)) (fun c => nextX_own w c (by omega)) ⟨⟨rfl, hb1⟩, hB1⟩
    (fun x => { tmps := #[.string (str s), undef, .pointer (some ⟨w.heap.size, 0, none⟩), .pointer (some ⟨w.heap.size + 1, 0, none⟩), .pointer (some ⟨w.heap.size + 1 + 1, 0, none⟩), .string (str x.p), .int .i64 x.e, .string (str s), .func (.func 304) #[] #[.pointer (some ⟨w.heap.size + 1 + 1 + 1, 0, none⟩)], .string (str x.p), .int .i64 x.e, undef, undef, undef, undef, undef, undef], defers := [] }) ?assign ?body ?done ?stop
  case assign =>
    intro l x W K hK
    gi_wp2
    exact hK
  case body =>
    rintro l pre x W ⟨⟨rfl, hb⟩, hB⟩ _
    have c0 := hb.1.cell
    have c1 := hb.2.1.cell
    have c2 := hb.2.2.cell
    have f0 := hb.1.frozen
    have f1 := hb.2.1.frozen
    have f2 := hb.2.2.frozen
    by_cases he : x.e = 0
    · have hp := x.hp
      have hP : Hid (x.p = nextP x ∧ 6 + x.p.length = nextN x) := by
        constructor
        · rw [nextP, if_pos he]
        · rw [nextN, if_pos he]
      have HE := Lib.hid he
      gi_wp2
      refine ⟨trivial, (CallsIn.inRound l (callsIn_wide.2 (size_c x.p _ (by omega)))).mono ?_⟩
      rintro E W2 ⟨rfl, rfl⟩
      gi_wp2
      refine ⟨keeps3 _ _ _ _ _ _ _, ⟨rfl, x, rfl, ?_⟩, hB.trans (below3 (Nat.le_refl _) _ _ _)⟩
      rw [HE.out, ← hP.out.1, ← hP.out.2]
      exact box3_set hb _ _ _
    · have hb0 : (x.e == 0) = false := beq_eq_false_iff_ne.2 he
      have hP : Hid ([] = nextP x ∧ 0 = nextN x) := by
        constructor
        · rw [nextP, if_neg he]
        · rw [nextN, if_neg he]
      clear he
      gi_wp2
      refine ⟨keeps3 _ _ _ _ _ _ _, ⟨rfl, x, rfl, ?_⟩, hB.trans (below3 (Nat.le_refl _) _ _ _)⟩
      rw [← hP.out.1, ← hP.out.2]
      exact box3_set hb _ _ _
  case done =>
    rintro D xs W hD rfl ⟨⟨hx, hb⟩, hB⟩ hK
    have hs0 : s = [] := by
      rcases Classical.em (s = []) with h | h
      · exact h
      · obtain ⟨r, hr⟩ := items_first h; rw [hr] at hx; cases hx
    subst hs0
    have c0 := hb.1.cell
    have c1 := hb.2.1.cell
    have c2 := hb.2.2.cell
    have f0 := hb.1.frozen
    have f1 := hb.2.1.frozen
    have f2 := hb.2.2.frozen
    gi_wp2
    have hK' := (keeps3 W w.heap.size (w.heap.size + 1) (w.heap.size + 1 + 1) (.string ⟨#[]⟩) (.int .i64 0) (.int .i64 10)).same D _ hK rfl
    have hb3 := box3_kept (box3_set hb (.string ⟨#[]⟩) (.int .i64 0) (.int .i64 10)) (grownBy_putObj' _ D (.deferred none)) (fun r e => by cases e; exact ⟨_, hK', rfl⟩)
    refine ⟨by simp, .inl ⟨_, _, rfl, run_takeDeferred hK', ?_⟩⟩
    have h0 := hb3.1.cell
    have h1 := hb3.2.1.cell
    have h2 := hb3.2.2.cell
    have hE : Ending.returned (.tuple #[.string (str []), .int .i64 0, .int .i64 10]) = Ending.returned (.tuple #[.string (str (fp [])), .int .i64 (fu []), .int .i64 (fe [])]) := by
      have := fu_bad (s := []) (fe_short (by simp)) (by decide)
      rw [this.1, this.2.1, this.2.2]; rfl
    refine ⟨.tuple #[.string ⟨#[]⟩, .int .i64 0, .int .i64 10], ?_, hE, (hB.trans (below3 (Nat.le_refl _) _ _ _)).trans (belowK_b (w := w1) (by omega) _ D _ _ hD hK' rfl rfl)⟩
    simp [results, Tryz.f241, go_sem, h0, h1, h2]
  case stop =>
    rintro D c pre W hD hpre ⟨⟨rfl, x, rfl, hb⟩, hB⟩ hK
    gi_wp2
    refine ⟨by simp, .inl ⟨_, _, rfl, run_takeDeferred hK, ?_⟩⟩
    have hb3 := box3_kept hb (grownBy_putObj' _ D (.deferred none)) (fun r e => by cases e; exact ⟨_, hK, rfl⟩)
    have h0 := hb3.1.cell
    have h1 := hb3.2.1.cell
    have h2 := hb3.2.2.cell
    have hx : x.p = fp s ∧ x.e = fe s := by
      obtain ⟨r, hr⟩ := hpre
      have hn : s ≠ [] := by rintro rfl; rw [items_nil] at hr; cases hr
      obtain ⟨r', hr'⟩ := items_first hn
      rw [hr'] at hr
      have := (List.cons.inj hr).1
      rw [this]; exact ⟨rfl, rfl⟩
    have hP : nextP x = fp s ∧ nextN x = fu s := by
      constructor
      · rw [nextP, hx.1, hx.2]
        by_cases h : fe s = 0
        · rw [if_pos h]
        · rw [if_neg h, fp_bad h]
      · rw [nextN, hx.1, hx.2]; rfl
    rw [hP.1] at h0
    rw [hP.2] at h1
    rw [hx.2] at h2
    refine ⟨.tuple #[.string (str (fp s)), .int .i64 (fu s), .int .i64 (fe s)], ?_, rfl, hB.trans (belowK_b (w := w1) (by omega) _ D _ _ hD hK rfl rfl)⟩
    simp [results, Tryz.f241, go_sem, h0, h1, h2]
end Go.Proofs.YtgeaacabpnepmaaGreatDoor
