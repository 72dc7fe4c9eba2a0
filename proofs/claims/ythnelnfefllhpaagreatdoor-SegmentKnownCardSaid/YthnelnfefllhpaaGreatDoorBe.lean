/- A record taken among the contents of a segment: the choice of what is done with it; add. -/
import Derived.Test.YthnelnfefllhpaaGreatDoorBd
namespace Go.Proofs.YthnelnfefllhpaaGreatDoor
open Go.RowKit
set_option linter.unusedVariables false
set_option linter.unusedSimpArgs false
set_option maxRecDepth 20000

theorem goes_in {P : Program} {f : FuncId} {fn : Func} {c : Code} (hf : P.funcs[f]? = some fn) (hname : (fn.name == "runtime.NumGoroutine") = false) (hb : fn.body = some c) : ∀ (args : Array Value) (w : World), (callFunc f args).run P w = .ok (.enter f args) w := fun args w => by
  have h1 : fn.name ≠ "runtime.NumGoroutine" := by simpa using hname
  simp [callFunc, hf, h1, hb]
def deedOf (k : Int) : FuncId := if k = 1 then 89 else if k = 2 then 90 else 91
theorem deed_in (k : Int) : ∀ (args : Array Value) (w : World), (callFunc (deedOf k) args).run Tryz.prog w = .ok (.enter (deedOf k) args) w := by
  unfold deedOf
  split
  · exact goes_in Tryz.func89 (by kernel_rfl) rfl
  · split
    · exact goes_in Tryz.func90 (by kernel_rfl) rfl
    · exact goes_in Tryz.func91 (by kernel_rfl) rfl
theorem deed_c (g : Nat) (k : Int) (w : World) : Calls Tryz.prog 63 #[.pointer (some ⟨g, 0, none⟩), .int .i64 k] w fun E w' => E = .returned (.func (.func (deedOf k)) #[.pointer (some ⟨g, 0, none⟩)] #[]) ∧ w = w' := by
  have hmf : ∀ (fn : Fn) (first cap : Array Value) (w : World), (Instr.makeFunc fn first cap).run Tryz.prog w = .ok (.func fn first cap) w := fun _ _ _ _ => rfl
  unfold deedOf
  by_cases h1 : k = 1
  · subst h1
    rw [if_pos rfl]
    go_enter Tryz.func63, Tryz.ntmps63
    go_wp2
    go_ret
    exact ⟨rfl, rfl⟩
  · by_cases h2 : k = 2
    · subst h2
      rw [if_neg (by decide), if_pos rfl]
      go_enter Tryz.func63, Tryz.ntmps63
      go_wp2
      go_ret
      exact ⟨rfl, rfl⟩
    · rw [if_neg h1, if_neg h2]
      have g1 : (k == 1) = false := beq_eq_false_iff_ne.2 h1
      have g2 : (k == 2) = false := beq_eq_false_iff_ne.2 h2
      go_enter Tryz.func63, Tryz.ntmps63
      go_wp2
      go_ret
      exact ⟨rfl, rfl⟩
attribute [local go_sem ↓] ld_rec ld_int
set_option maxHeartbeats 1000000 in
theorem add_order {g n : Nat} {x : Sg} {v : List Nat} {ao : Option Addr} {cap : Nat} {r : Rc} {w : World} (h : CtC w g n x v ao cap) (hb : (x.h.k = 3 ∧ r.k = 3) ∨ (x.h.k ≠ 3 ∧ r.k ≠ 3)) :
    Calls Tryz.prog 41 #[.pointer (some ⟨g, 0, none⟩), .agg (rcs r)] w fun E w' => E = .returned (.int .i64 11) ∧ Below w.heap.size w w' := by
  rcases hb with ⟨h1, h2⟩ | ⟨h1, h2⟩
  · have H0 := Lib.hid ((Loc.hold h.blk).more 43 (rcs r))
    have HB := Lib.hid (below_alloc w (.cells (rcs r) 43))
    have g1 : (x.h.k != 3) = false := by rw [bne_eq_false_iff_eq]; exact h1
    have g2 : (r.k == 3) = true := by rw [beq_iff_eq]; exact h2
    clear h1 h2
    go_enter Tryz.func41, Tryz.ntmps41
    go_upto_region 1 with fail
    generalize w.alloc (.cells (rcs r) 43) = wa at *
    have l1 := H0.out.ldO ty_int 0 rfl 1 (v := .int .i64 x.h.k) (ccs1 n x v ao cap)
    have l2 := H0.out.ldO ty_int 1 rfl 0 (v := .int .i64 r.k) rfl
    go_wp2
    go_ret
    exact ⟨rfl, HB.out⟩
  · have H0 := Lib.hid ((Loc.hold h.blk).more 43 (rcs r))
    have HB := Lib.hid (below_alloc w (.cells (rcs r) 43))
    have g1 : (x.h.k != 3) = true := by rw [bne_iff_ne]; exact h1
    have g2 : (r.k == 3) = false := by rw [beq_eq_false_iff_ne]; exact h2
    clear h1 h2
    go_enter Tryz.func41, Tryz.ntmps41
    go_upto_region 1 with fail
    generalize w.alloc (.cells (rcs r) 43) = wa at *
    have l1 := H0.out.ldO ty_int 0 rfl 1 (v := .int .i64 x.h.k) (ccs1 n x v ao cap)
    have l2 := H0.out.ldO ty_int 1 rfl 0 (v := .int .i64 r.k) rfl
    go_wp2
    go_ret
    exact ⟨rfl, HB.out⟩
set_option maxHeartbeats 1000000 in
theorem add_do {g n : Nat} {x : Sg} {v : List Nat} {ao : Option Addr} {cap : Nat} {r : Rc} {w : World} {Q : Ending → World → Prop} (h : CtC w g n x v ao cap) (hb : (x.h.k = 3 ∧ r.k ≠ 3) ∨ (x.h.k ≠ 3 ∧ r.k = 3))
    (hQ : ∀ w1, Below w.heap.size w w1 → Calls Tryz.prog (deedOf r.k) #[.pointer (some ⟨g, 0, none⟩), .agg (rcs r)] w1 fun E w2 => ∃ c : Int, E = .returned (.int .i64 c) ∧ Q E w2) :
    Calls Tryz.prog 41 #[.pointer (some ⟨g, 0, none⟩), .agg (rcs r)] w Q := by
  have HQ := Lib.hid hQ
  clear hQ
  rcases hb with ⟨h1, h2⟩ | ⟨h1, h2⟩
  · have H0 := Lib.hid ((Loc.hold h.blk).more 43 (rcs r))
    have HB := Lib.hid (below_alloc w (.cells (rcs r) 43))
    have g1 : (x.h.k != 3) = false := by rw [bne_eq_false_iff_eq]; exact h1
    have g2 : (r.k == 3) = false := by rw [beq_eq_false_iff_ne]; exact h2
    clear h1 h2
    go_enter Tryz.func41, Tryz.ntmps41
    go_upto_region 1 with fail
    generalize w.alloc (.cells (rcs r) 43) = wa at *
    have l1 := H0.out.ldO ty_int 0 rfl 1 (v := .int .i64 x.h.k) (ccs1 n x v ao cap)
    have l2 := H0.out.ldO ty_int 1 rfl 0 (v := .int .i64 r.k) rfl
    go_upto_region 4 with fail
    clear l1 l2
    obtain ⟨wd, hwd⟩ : ∃ wd, ({ wa with drawn := wa.drawn + 1 } : World) = wd := ⟨_, rfl⟩
    have H1 : Hid (Loc g w wd [(g, 97, ccs n x v ao cap), (w.heap.size, 43, rcs r)]) := by show Loc _ _ _ _; rw [← hwd]; exact H0.out.drew
    have HB1 : Hid (Below w.heap.size w wd) := by show Below _ _ _; rw [← hwd]; exact HB.out.drew
    have l2 := H1.out.ldO ty_int 1 rfl 0 (v := .int .i64 r.k) rfl
    have l3 := H1.out.ldA ty_rec 1 rfl 0 (vs := rcs r) (by simp [rcs]) (Nat.le_of_ble_eq_true rfl)
    have HD := Lib.hid (deed_c g r.k wd)
    have HI := deed_in r.k
    obtain ⟨D, hD⟩ : ∃ D, D = deedOf r.k := ⟨_, rfl⟩
    rw [← hD] at HD HI HQ
    clear hD
    refine wp_region_still_tail 5 (by kernel_rfl) (by kernel_rfl) ?_
    simp only [List.take_succ_cons, List.take_zero, List.drop_succ_cons, List.drop_zero]
    rw [hwd]
    clear hwd
    repeat still_step
    still_call (HD.out.mono fun _ _ ⟨h1, h2⟩ => ⟨h1, h2.symm⟩)
    repeat still_step
    refine wpStill_nil ?_
    clear g1 g2
    go_wp2_with fail
    refine (HQ.out wd HB1.out).mono ?_
    rintro E w2 ⟨c, rfl, hE2⟩
    have HE := Lib.hid hE2
    clear hE2
    go_wp2
    exact HE.out
  · have H0 := Lib.hid ((Loc.hold h.blk).more 43 (rcs r))
    have HB := Lib.hid (below_alloc w (.cells (rcs r) 43))
    have g1 : (x.h.k != 3) = true := by rw [bne_iff_ne]; exact h1
    have g2 : (r.k == 3) = true := by rw [beq_iff_eq]; exact h2
    clear h1 h2
    go_enter Tryz.func41, Tryz.ntmps41
    go_upto_region 1 with fail
    generalize w.alloc (.cells (rcs r) 43) = wa at *
    have l1 := H0.out.ldO ty_int 0 rfl 1 (v := .int .i64 x.h.k) (ccs1 n x v ao cap)
    have l2 := H0.out.ldO ty_int 1 rfl 0 (v := .int .i64 r.k) rfl
    go_upto_region 4 with fail
    clear l1 l2
    obtain ⟨wd, hwd⟩ : ∃ wd, ({ wa with drawn := wa.drawn + 1 } : World) = wd := ⟨_, rfl⟩
    have H1 : Hid (Loc g w wd [(g, 97, ccs n x v ao cap), (w.heap.size, 43, rcs r)]) := by show Loc _ _ _ _; rw [← hwd]; exact H0.out.drew
    have HB1 : Hid (Below w.heap.size w wd) := by show Below _ _ _; rw [← hwd]; exact HB.out.drew
    have l2 := H1.out.ldO ty_int 1 rfl 0 (v := .int .i64 r.k) rfl
    have l3 := H1.out.ldA ty_rec 1 rfl 0 (vs := rcs r) (by simp [rcs]) (Nat.le_of_ble_eq_true rfl)
    have HD := Lib.hid (deed_c g r.k wd)
    have HI := deed_in r.k
    obtain ⟨D, hD⟩ : ∃ D, D = deedOf r.k := ⟨_, rfl⟩
    rw [← hD] at HD HI HQ
    clear hD
    refine wp_region_still_tail 5 (by kernel_rfl) (by kernel_rfl) ?_
    simp only [List.take_succ_cons, List.take_zero, List.drop_succ_cons, List.drop_zero]
    rw [hwd]
    clear hwd
    repeat still_step
    still_call (HD.out.mono fun _ _ ⟨h1, h2⟩ => ⟨h1, h2.symm⟩)
    repeat still_step
    refine wpStill_nil ?_
    clear g1 g2
    go_wp2_with fail
    refine (HQ.out wd HB1.out).mono ?_
    rintro E w2 ⟨c, rfl, hE2⟩
    have HE := Lib.hid hE2
    clear hE2
    go_wp2
    exact HE.out
/-- What is done with a record. -/
theorem add_c {g n : Nat} {x : Sg} {v : List Nat} {ao : Option Addr} {cap : Nat} {r : Rc} {w : World} (h : CtC w g n x v ao cap) (hf : r.fit) (hm : mayB r = true) (hfw : x.l.length < 1000000) :
    Calls Tryz.prog 41 #[.pointer (some ⟨g, 0, none⟩), .agg (rcs r)] w fun E w' => E = .returned (.int .i64 (tkS n x r)) ∧ CtE w' g n (if tkS n x r = 0 then adS x r else x) ∧ Below g w w' := by
  have hgl := h.blk.lt
  have bad : ∀ {e : Int}, tkS n x r = e → e ≠ 0 → (∀ E w', (E = .returned (.int .i64 e) ∧ Below w.heap.size w w') → (E = Ending.returned (.int .i64 (tkS n x r)) ∧ CtE w' g n (if tkS n x r = 0 then adS x r else x) ∧ Below g w w')) := by
    rintro e he h0 E w' ⟨rfl, hb⟩
    rw [he, if_neg h0]
    exact ⟨rfl, ⟨v, ao, cap, h.to hb⟩, hb.mono (Nat.le_of_lt hgl)⟩
  by_cases hxb : x.b = true
  · obtain ⟨hk3, hy2, hs, _⟩ := h.okg.hb hxb
    by_cases k3 : r.k = 3
    · have ht : tkS n x r = 11 := by unfold tkS; rw [if_pos k3, if_pos (.inl hxb)]
      exact (add_order h (.inl ⟨hk3, k3⟩)).mono fun E w' he => bad ht (by decide) E w' he
    · refine add_do h (.inl ⟨hk3, k3⟩) fun w1 hb1 => ?_
      have h1 := h.to hb1
      by_cases k1 : r.k = 1
      · have hd : deedOf r.k = 89 := by unfold deedOf; rw [if_pos k1]
        rw [hd]
        by_cases hc : r.f ≠ x.o ∨ 12 ≤ x.o - x.c ∨ r.f = 18446744073709551615
        · have ht : tkS n x r = 11 := by unfold tkS; rw [if_neg k3, if_neg (by rw [hxb]; decide), if_pos k1, if_pos hc]
          exact (own_bad h1 hf hc).mono fun E w' ⟨he, hb⟩ => ⟨11, he, bad ht (by decide) E w' ⟨he, hb1.trans (hb.mono hb1.size)⟩⟩
        · have ht : tkS n x r = 0 := by unfold tkS; rw [if_neg k3, if_neg (by rw [hxb]; decide), if_pos k1, if_neg hc]
          have ha : adS x r = ⟨x.b, x.h, x.l ++ [r], x.c, x.o + 1⟩ := by unfold adS; rw [if_neg k3, if_pos k1]
          have hg := okg_ad h.okg hf hm ht
          have hi := (inps_ad h.okg h.inp hm ht).1 k1
          refine (own_ok h1 hf (by omega) (by omega) (by omega) hfw).mono fun E w' ⟨he, a', c', hc', hr', hb⟩ => ⟨0, he, ?_⟩
          rw [ht, if_pos rfl]
          rw [ha] at hg hi ⊢
          exact ⟨he, ⟨_, a', c', hc', hr', hg, hi, by show (x.l ++ [r]).length ≤ _; simp; omega⟩, (hb1.mono (Nat.le_of_lt hgl)).trans hb⟩
      · have k2 : r.k = 2 := by have := may_k hm; omega
        have hd : deedOf r.k = 90 := by unfold deedOf; rw [if_neg k1, if_pos k2]
        rw [hd]
        by_cases hc : r.f ≠ x.c ∨ x.o ≤ x.c
        · have ht : tkS n x r = 11 := by unfold tkS; rw [if_neg k3, if_neg (by rw [hxb]; decide), if_neg k1, if_pos hc]
          exact (sure_bad h1 hf hc).mono fun E w' ⟨he, hb⟩ => ⟨11, he, bad ht (by decide) E w' ⟨he, hb1.trans (hb.mono hb1.size)⟩⟩
        · have hy : x.h.y = 0 ∨ x.h.y = 1 := by omega
          have ha : adS x r = ⟨x.b, x.h, x.l ++ [r], x.c + 1, x.o⟩ := by unfold adS; rw [if_neg k3, if_neg k1]
          by_cases hs : side r x.h.y = inp x.l r.f
          · have ht : tkS n x r = 0 := by unfold tkS; rw [if_neg k3, if_neg (by rw [hxb]; decide), if_neg k1, if_neg hc, if_neg (fun h => h hs)]
            have hg := okg_ad h.okg hf hm ht
            have hi := (inps_ad h.okg h.inp hm ht).2 k1
            have fin : ∀ E w', (E = Ending.returned (.int .i64 0) ∧ ∃ a' c', Cells w' g 97 (ccs n ⟨x.b, x.h, x.l ++ [r], (x.c + 1), x.o⟩ v a' c') ∧ w'.ownsRow (g + 1) 43 9 (.slice a' (x.l ++ [r]).length c') (x.l ++ [r]).length (Rall (x.l ++ [r])) ∧ Below g w1 w') →
                ∃ c : Int, E = .returned (.int .i64 c) ∧ (E = Ending.returned (.int .i64 (tkS n x r)) ∧ CtE w' g n (if tkS n x r = 0 then adS x r else x) ∧ Below g w w') := by
              rintro E w' ⟨he, a', c', hc', hr', hb⟩
              refine ⟨0, he, ?_⟩
              rw [ht, if_pos rfl]
              rw [ha] at hg hi ⊢
              exact ⟨he, ⟨_, a', c', hc', hr', hg, hi, by show (x.l ++ [r]).length ≤ _; simp; omega⟩, (hb1.mono (Nat.le_of_lt hgl)).trans hb⟩
            rcases hy with hy | hy
            · exact (sure_ok0 h1 hf (by omega) (by omega) hy (by rw [← hs, hy]; rfl) hfw).mono fin
            · exact (sure_ok1 h1 hf (by omega) (by omega) hy (by rw [← hs, hy]; rfl) hfw).mono fin
          · have ht : tkS n x r = 14 := by unfold tkS; rw [if_neg k3, if_neg (by rw [hxb]; decide), if_neg k1, if_neg hc, if_pos hs]
            have fin : ∀ E w', (E = Ending.returned (.int .i64 14) ∧ Below w1.heap.size w1 w') → ∃ c : Int, E = .returned (.int .i64 c) ∧ (E = Ending.returned (.int .i64 (tkS n x r)) ∧ CtE w' g n (if tkS n x r = 0 then adS x r else x) ∧ Below g w w') :=
              fun E w' ⟨he, hb⟩ => ⟨14, he, bad ht (by decide) E w' ⟨he, hb1.trans (hb.mono hb1.size)⟩⟩
            rcases hy with hy | hy
            · exact (sure_clash0 h1 hf (by omega) (by omega) hy (by rw [hy] at hs; exact hs) hfw).mono fin
            · exact (sure_clash1 h1 hf (by omega) (by omega) hy (by rw [hy] at hs; exact hs) hfw).mono fin
  · have hxb' : x.b = false := by cases hx : x.b <;> simp_all
    obtain ⟨hrz, hl0, _, _⟩ := h.okg.nb hxb'
    have hk0 : x.h.k ≠ 3 := by rw [hrz]; decide
    by_cases k3 : r.k = 3
    · refine add_do h (.inr ⟨hk0, k3⟩) fun w1 hb1 => ?_
      have h1 := h.to hb1
      have hd : deedOf r.k = 91 := by unfold deedOf; rw [if_neg (by omega), if_neg (by omega)]
      rw [hd]
      by_cases hs : r.s = n
      · have ht : tkS n x r = 0 := by unfold tkS; rw [if_pos k3, if_neg (by rintro (h | h); exact hxb h; exact h hs)]
        have ha : adS x r = ⟨true, r, x.l, r.i, r.i⟩ := by unfold adS; rw [if_pos k3]
        have hg := okg_ad h.okg hf hm ht
        have hi := (inps_ad h.okg h.inp hm ht).2 (by omega)
        refine (begin_ok h1 hs).mono fun E w' ⟨he, hc', htu⟩ => ⟨0, he, ?_⟩
        rw [ht, if_pos rfl]
        rw [ha] at hg hi ⊢
        exact ⟨he, ⟨_, _, _, hc', row_tu h1.row htu fun y hy e => by have := (h.row.lt y hy).1; omega, hg, hi, h.few⟩, (hb1.mono (Nat.le_of_lt hgl)).trans (htu.below (fun y hy e => by omega) (Nat.le_of_lt h1.blk.lt))⟩
      · have ht : tkS n x r = 11 := by unfold tkS; rw [if_pos k3, if_pos (.inr hs)]
        exact (begin_bad h1 hs).mono fun E w' ⟨he, hb⟩ => ⟨11, he, bad ht (by decide) E w' ⟨he, hb1.trans (hb.mono hb1.size)⟩⟩
    · have ht : tkS n x r = 11 := by unfold tkS; rw [if_neg k3, if_pos hxb']
      exact (add_order h (.inr ⟨hk0, k3⟩)).mono fun E w' he => bad ht (by decide) E w' he
end Go.Proofs.YthnelnfefllhpaaGreatDoor
