/- Texts of the walk. -/
import Derived.Test.YtgeaacabpnepmaaGreatDoorKt9
import Derived.Test.YtgeaacabpnepmaaGreatDoorKb9
/- Sure. -/
namespace Go.Proofs.YtgeaacabpnepmaaGreatDoor
open Go.RowKit
set_option linter.unusedVariables false
set_option linter.unusedSimpArgs false
set_option maxRecDepth 20000

section
variable {V : Nat → Prop} {w w1 : World} {gj gp q kc : Nat} {dv : Value} {ko : Option Addr} {p : Pw} {j : Jn} {S : Nat → Prop} {ao so co : Option Addr} {ac sc cc : Nat} {R : Ending}
theorem sure_br (q : Nat) (p : Pw) (j : Jn) (f a b : Nat) (h : j.br = true) : jSure q p j f a b = ⟨13, p, j⟩ := if_pos h
theorem sure_2 (q : Nat) (p : Pw) (j : Jn) (f a b : Nat) (h : j.br = false) (h2 : 64 ≤ a ∨ 64 ≤ b) : jSure q p j f a b = ⟨2, p, j⟩ := by
  unfold jSure; rw [if_neg (by rw [h]; exact Bool.false_ne_true), if_pos h2]
theorem sure_11 (q : Nat) (p : Pw) (j : Jn) (f a b : Nat) (h : j.br = false) (h2 : a < 64 ∧ b < 64) (h3 : f ≠ j.c ∨ j.ah = []) : jSure q p j f a b = ⟨11, p, j⟩ := by
  unfold jSure; rw [if_neg (by rw [h]; exact Bool.false_ne_true), if_neg (by omega), if_pos h3]
theorem sure_14 (q : Nat) (p : Pw) (j : Jn) (f a b : Nat) (h : j.br = false) (h2 : a < 64 ∧ b < 64) (h3 : ¬ (f ≠ j.c ∨ j.ah = [])) (h4 : sid j.m.pl (a, b) ≠ j.ah.headD 0) : jSure q p j f a b = ⟨14, p, j⟩ := by
  unfold jSure; rw [if_neg (by rw [h]; exact Bool.false_ne_true), if_neg (by omega), if_neg h3, if_pos h4]
theorem sure_go (q : Nat) (p : Pw) (j : Jn) (f a b : Nat) (h : j.br = false) (h2 : a < 64 ∧ b < 64) (h3 : ¬ (f ≠ j.c ∨ j.ah = [])) (h4 : ¬ sid j.m.pl (a, b) ≠ j.ah.headD 0) : jSure q p j f a b = if wrE' q p j (rS f a b) = 0 then ⟨0, wrP q p j (rS f a b), { j.wrote 0 with c := j.c + 1, ah := j.ah.tail }⟩ else ⟨wrE' q p j (rS f a b), wrP q p j (rS f a b), j.wrote (wrE' q p j (rS f a b))⟩ := by
  unfold jSure; rw [if_neg (by rw [h]; exact Bool.false_ne_true), if_neg (by omega), if_neg h3, if_neg h4]
theorem rS_fits {f a b : Nat} (hf : f < 18446744073709551616) (ha : a < 64) (hb : b < 64) : (rS f a b).fit := by
  constructor <;> simp [rS] <;> omega
attribute [local go_sem ↓] ld_pw ld_man ld_inps ld_input ld_int st_int ld_u64 st_u64 ld_u8 ld_bool ld_pair
set_option maxHeartbeats 8000000 in
theorem jsure_c (f a b : Nat) (w : World) (h : JC V w gj gp q dv ko kc p j) (hn : p.n < 1000000) (hap : j.ap < 1000000) (ht : Tab w) (hfi : f < 18446744073709551616) :
    Calls Tryz.prog 17 #[.pointer (some ⟨gj, 0, none⟩), .int .u64 (f : Int), .agg #[.int .u8 (a : Int), .int .u8 (b : Int)]] w (JPost V w gj gp q dv ko kc (jSure q p j f a b).e (jSure q p j f a b).p (jSure q p j f a b).j) := by
  have HFI := Lib.hid hfi
  have HN := Lib.hid hn
  have HAP := Lib.hid hap
  have H0 := Loc.one w 40 #[.int .u8 (a : Int), .int .u8 (b : Int)]
  have HJ := Lib.hid (h.new H0.be)
  have HT := Lib.hid (tab_below ht H0.be)
  have HTO := Lib.hid (JTo.new (V := V) H0.be)
  have HVL := Lib.hid h.lt
  obtain ⟨Q, hQ⟩ : ∃ Q : Ending → World → Prop, Q = JPost V w gj gp q dv ko kc (jSure q p j f a b).e (jSure q p j f a b).p (jSure q p j f a b).j := ⟨_, rfl⟩
  rw [← hQ]
  have HQ := Lib.hid hQ
  have l0 := H0.ldO ty_input 0 rfl 0 (v := .int .u8 (a : Int)) rfl
  have l1 := H0.ldO ty_input 0 rfl 1 (v := .int .u8 (b : Int)) rfl
  have HBX : Hid (Cells _ w.heap.size 40 #[.int .u8 (a : Int), .int .u8 (b : Int)]) := H0.get 0 rfl
  clear h hn hap ht hfi hQ H0
  go_enter Tryz.func17, Tryz.ntmps17
  go_upto_region 1 with fail
  generalize hwa : w.alloc (.cells #[.int .u8 (a : Int), .int .u8 (b : Int)] 40) = wa at *
  clear hwa
  have HW := Lib.hid (works_c wa HJ.out)
  cases hb : j.br
  case true =>
    have HFin : Hid (Q (.returned (.int .i64 13)) wa) := by
      show Q _ _
      rw [HQ.out, sure_br _ _ _ _ _ _ hb]
      exact ⟨rfl, V, HJ.out, HTO.out⟩
    rw [hb] at HW
    go_wp2_with fail
    refine HW.out.mono ?_
    rintro R w' ⟨rfl, rfl⟩
    go_wp2
    exact HFin.out
  case false =>
    rw [hb] at HW
    have HB := Lib.hid hb
    clear hb
    have HLa := Lib.hid (jlegal_c a wa)
    have HLb := Lib.hid (jlegal_c b wa)
    by_cases ha : a < 64
    case neg =>
      rw [decide_eq_false ha] at HLa
      have HFin : Hid (Q (.returned (.int .i64 2)) wa) := by
        show Q _ _
        rw [HQ.out, sure_2 _ _ _ _ _ _ HB.out (.inl (by omega))]
        exact ⟨rfl, V, HJ.out, HTO.out⟩
      clear ha
      go_wp2_with fail
      refine HW.out.mono ?_
      rintro R w' ⟨rfl, rfl⟩
      go_wp2_with fail
      refine HLa.out.mono ?_
      rintro R w' ⟨rfl, rfl⟩
      go_wp2
      exact HFin.out
    case pos =>
    rw [decide_eq_true ha] at HLa
    by_cases hbb : b < 64
    case neg =>
      rw [decide_eq_false hbb] at HLb
      have HFin : Hid (Q (.returned (.int .i64 2)) wa) := by
        show Q _ _
        rw [HQ.out, sure_2 _ _ _ _ _ _ HB.out (.inr (by omega))]
        exact ⟨rfl, V, HJ.out, HTO.out⟩
      clear hbb ha
      go_wp2_with fail
      refine HW.out.mono ?_
      rintro R w' ⟨rfl, rfl⟩
      go_wp2_with fail
      refine HLa.out.mono ?_
      rintro R w' ⟨rfl, rfl⟩
      go_wp2_with fail
      refine HLb.out.mono ?_
      rintro R w' ⟨rfl, rfl⟩
      go_wp2
      exact HFin.out
    case pos =>
    rw [decide_eq_true hbb] at HLb
    have HAB := Lib.hid (And.intro ha hbb)
    clear ha hbb
    obtain ⟨S, ao, ac, so, sc, co, cc, hx⟩ := HJ.out
    have HX := Lib.hid hx
    have l2 := run_ldO ty_u64 hx.jn.blk 2 (v := .int .u64 (j.c : Int)) rfl
    have l3 := run_ldO ty_inps hx.jn.blk 3 (v := .slice ao j.ah.length ac) rfl
    clear hx
    by_cases hf : f ≠ j.c ∨ j.ah = []
    case pos =>
      have HFin : Hid (Q (.returned (.int .i64 11)) wa) := by
        show Q _ _
        rw [HQ.out, sure_11 _ _ _ _ _ _ HB.out HAB.out hf]
        exact ⟨rfl, V, HJ.out, HTO.out⟩
      obtain ⟨b1, hb1⟩ : ∃ b1, ((f : Int) != (j.c : Int)) = b1 := ⟨_, rfl⟩
      obtain ⟨b2, hb2⟩ : ∃ b2, ((j.ah.length : Int) == 0) = b2 := ⟨_, rfl⟩
      have hbb : b1 = true ∨ (b1 = false ∧ b2 = true) := by
        subst hb1 hb2
        rcases hf with h | h
        · left; rw [bne_iff_ne]; omega
        · by_cases h1 : f = j.c
          · right; refine ⟨?_, by rw [beq_iff_eq, h]; rfl⟩
            rw [← h1]; simp
          · left; rw [bne_iff_ne]; omega
      clear hf
      rcases hbb with rfl | ⟨rfl, rfl⟩
      all_goals
        go_wp2_with fail
        refine HW.out.mono ?_
        rintro R w' ⟨rfl, rfl⟩
        go_wp2_with fail
        refine HLa.out.mono ?_
        rintro R w' ⟨rfl, rfl⟩
        go_wp2_with fail
        refine HLb.out.mono ?_
        rintro R w' ⟨rfl, rfl⟩
        go_wp2
        exact HFin.out
    case neg =>
    have hfc : f = j.c := by
      apply Classical.byContradiction; intro h; exact hf (.inl h)
    have hne : j.ah ≠ [] := fun h => hf (.inr h)
    have hlp : 0 < j.ah.length := List.length_pos_iff.2 hne
    have hb1 : ((f : Int) != (j.c : Int)) = false := by rw [hfc]; simp
    have hb2 : ((j.ah.length : Int) == 0) = false := beq_eq_false_iff_ne.2 (by omega)
    have HF := Lib.hid hf
    have HNE := Lib.hid hne
    obtain ⟨bk, ok, hin⟩ := HX.out.jn.ins.ptr hne
    subst hin
    obtain ⟨x, l, hxl⟩ := List.exists_cons_of_ne_nil hne
    have HXL := Lib.hid hxl
    obtain ⟨b', o', e', hcx⟩ := HX.out.jn.ins 0 hlp
    cases e'
    have hcx' : wa.cell? ⟨bk, ok, none⟩ = some (.int .u8 (x : Int)) := by
      have h2 : j.ah[0]'hlp = x := by simp only [hxl]; rfl
      rw [h2] at hcx; exact hcx
    have lx := fun k => run_ldC (w := wa.drewN k) ty_input hcx'
    have l4 := fun k => run_ldO (w := wa.drewN k) ty_inps HX.out.jn.blk 3 (v := .slice (some ⟨bk, ok, none⟩) j.ah.length ac) rfl
    have l50 := fun k => run_ldO (w := wa.drewN k) ty_input HBX.out 0 (v := .int .u8 (a : Int)) rfl
    have l51 := fun k => run_ldO (w := wa.drewN k) ty_input HBX.out 1 (v := .int .u8 (b : Int)) rfl
    have hpl := HX.out.jn.fit.pl
    have l6 := fun k => run_ldO (w := wa.drewN k) ty_u8 HX.out.jn.blk 7 (v := .int .u8 (j.m.pl : Int)) rfl
    have hlz : (0 : Int) < (j.ah.length : Int) := by omega
    clear hf hfc hne hlp hxl hcx hcx'
    have hp01 : j.m.pl = 0 ∨ j.m.pl = 1 := by omega
    clear hpl
    rcases hp01 with hp | hp
    · obtain ⟨z, hz⟩ : ∃ z, z = sid j.m.pl (a, b) := ⟨_, rfl⟩
      have hl5 : ∀ k, (ldT 38 (.pointer (some ⟨w.heap.size, 0, none⟩))).run Tryz.prog (wa.drewN k) = .ok (.int .u8 (z : Int)) (wa.drewN k) := fun k => by
        have h1 : z = a := by rw [hz, hp]; rfl
        rw [h1]; exact l50 k
      have hl6 : ∀ k, (ldT 5 (.pointer (some ⟨gj, 7, none⟩))).run Tryz.prog (wa.drewN k) = .ok (.int .u8 0) (wa.drewN k) := fun k => by
        have h1 : (j.m.pl : Int) = 0 := by rw [hp]; rfl
        rw [← h1]; exact l6 k
      have HZ := Lib.hid hz
      clear hz l50 l51 l6 hp
      by_cases hzx : z = x
      case neg =>
        have hq : ((z : Int) != (x : Int)) = true := by rw [bne_iff_ne]; omega
        have HFin : Hid (∀ k, Q (.returned (.int .i64 14)) (wa.drewN k)) := fun k => by
          show Q _ _
          rw [HQ.out, sure_14 _ _ _ _ _ _ HB.out HAB.out HF.out (by rw [← HZ.out, HXL.out]; exact hzx)]
          exact ⟨rfl, V, HJ.out.new (below_drewN (Below.refl _ _) k), HTO.out.trans (JTo.new (below_drewN (Below.refl _ _) k))⟩
        clear hzx
        go_wp2_with fail
        refine HW.out.mono ?_
        rintro R w' ⟨rfl, rfl⟩
        go_wp2_with fail
        refine HLa.out.mono ?_
        rintro R w' ⟨rfl, rfl⟩
        go_wp2_with fail
        refine HLb.out.mono ?_
        rintro R w' ⟨rfl, rfl⟩
        go_upto_region 7 with fail
        go_quiet (fail)
        go_wp2
        exact HFin.out _
      case pos =>
        have hq : ((z : Int) != (x : Int)) = false := by rw [hzx]; simp
        have HGO := Lib.hid (sure_go q p j f a b HB.out HAB.out HF.out (fun h => h (by rw [← HZ.out, HXL.out]; exact hzx)))
        have lp : ∀ k, (ldT 40 (.pointer (some ⟨w.heap.size, 0, none⟩))).run Tryz.prog (wa.drewN k) = .ok (.agg #[.int .u8 (a : Int), .int .u8 (b : Int)]) (wa.drewN k) := fun k => run_ldA ty_pair (w := wa.drewN k) HBX.out 0 (Nat.le_of_ble_eq_true rfl)
        clear hzx
        go_wp2_with fail
        refine HW.out.mono ?_
        rintro R w' ⟨rfl, rfl⟩
        go_wp2_with fail
        refine HLa.out.mono ?_
        rintro R w' ⟨rfl, rfl⟩
        go_wp2_with fail
        refine HLb.out.mono ?_
        rintro R w' ⟨rfl, rfl⟩
        go_upto_region 7 with fail
        go_quiet (fail)
        go_wp2_with fail
        refine (sureRec_c f a b _).mono ?_
        rintro R w3 ⟨rfl, hb3⟩
        have hb3' := (below_drewN (Below.refl wa.heap.size wa) _).trans hb3
        have HJ3 := Lib.hid (HJ.out.new hb3')
        have HT3 := Lib.hid (tab_below HT.out hb3')
        have HTO3 := Lib.hid (HTO.out.trans (JTo.new (V := V) hb3'))
        clear hb3 hb3' l2 l3 lx l4 hl5 hl6 lp l0 l1
        go_wp2_with fail
        refine (jwrite_c (rS f a b) w3 HJ3.out (rS_fits HFI.out HAB.out.1 HAB.out.2) HN.out HAP.out HT3.out).mono ?_
        rintro R w4 ⟨rfl, V4, hj4, ht4⟩
        have HTO4 := Lib.hid (HTO3.out.trans ht4)
        generalize wrE' q p j (rS f a b) = e at *
        clear ht4 HTO3 HJ3 HT3
        have HJ4 := Lib.hid hj4
        clear hj4
        by_cases he : e = 0
        · have hq : (e != 0) = false := by rw [he]; rfl
          subst he
          obtain ⟨S4, ao4, ac4, so4, sc4, co4, cc4, hx4⟩ := HJ4.out
          obtain ⟨b4, k4, hao4⟩ := hx4.jn.ins.ptr (show j.ah ≠ [] from HNE.out)
          subst hao4
          have HX4 := Lib.hid hx4
          clear hx4
          go_wp2_with fail
          refine (tconfirm_c gj 2 j.c j.ah.length ac4 b4 k4 69 (jcs gp (j.wrote 0) (some ⟨b4, k4, none⟩) ac4 so4 sc4 co4 cc4) w4 HX4.out.jn.blk rfl rfl (List.length_pos_iff.2 HNE.out) HX4.out.jn.cap.1 HX4.out.jn.cap.2 (by have h1 : j.c + j.ah.length < 18446744073709551616 := HX4.out.jn.fit.o; have := List.length_pos_iff.2 HNE.out; omega)).mono ?_
          rintro R w5 hp5
          obtain ⟨rfl, V5, hj5, ht5⟩ := HX4.out.sures hp5 HNE.out
          have HFin : Hid (Q (.returned (.int .i64 0)) w5) := by
            show Q _ _
            rw [HQ.out, HGO.out, if_pos trivial]
            exact ⟨rfl, V5, hj5, HTO4.out.trans ht5⟩
          clear hp5 hj5 ht5
          go_wp2
          exact HFin.out
        · have hq : (e != 0) = true := by rw [bne_iff_ne]; exact he
          have HFin : Hid (Q (.returned (.int .i64 e)) w4) := by
            show Q _ _
            rw [HQ.out, HGO.out, if_neg he]
            exact ⟨rfl, V4, HJ4.out, HTO4.out⟩
          clear he
          go_wp2
          exact HFin.out
    · obtain ⟨z, hz⟩ : ∃ z, z = sid j.m.pl (a, b) := ⟨_, rfl⟩
      have hl5 : ∀ k, (ldT 38 (.pointer (some ⟨w.heap.size, 1, none⟩))).run Tryz.prog (wa.drewN k) = .ok (.int .u8 (z : Int)) (wa.drewN k) := fun k => by
        have h1 : z = b := by rw [hz, hp]; rfl
        rw [h1]; exact l51 k
      have hl6 : ∀ k, (ldT 5 (.pointer (some ⟨gj, 7, none⟩))).run Tryz.prog (wa.drewN k) = .ok (.int .u8 1) (wa.drewN k) := fun k => by
        have h1 : (j.m.pl : Int) = 1 := by rw [hp]; rfl
        rw [← h1]; exact l6 k
      have HZ := Lib.hid hz
      clear hz l50 l51 l6 hp
      by_cases hzx : z = x
      case neg =>
        have hq : ((z : Int) != (x : Int)) = true := by rw [bne_iff_ne]; omega
        have HFin : Hid (∀ k, Q (.returned (.int .i64 14)) (wa.drewN k)) := fun k => by
          show Q _ _
          rw [HQ.out, sure_14 _ _ _ _ _ _ HB.out HAB.out HF.out (by rw [← HZ.out, HXL.out]; exact hzx)]
          exact ⟨rfl, V, HJ.out.new (below_drewN (Below.refl _ _) k), HTO.out.trans (JTo.new (below_drewN (Below.refl _ _) k))⟩
        clear hzx
        go_wp2_with fail
        refine HW.out.mono ?_
        rintro R w' ⟨rfl, rfl⟩
        go_wp2_with fail
        refine HLa.out.mono ?_
        rintro R w' ⟨rfl, rfl⟩
        go_wp2_with fail
        refine HLb.out.mono ?_
        rintro R w' ⟨rfl, rfl⟩
        go_upto_region 7 with fail
        go_quiet (fail)
        go_wp2
        exact HFin.out _
      case pos =>
        have hq : ((z : Int) != (x : Int)) = false := by rw [hzx]; simp
        have HGO := Lib.hid (sure_go q p j f a b HB.out HAB.out HF.out (fun h => h (by rw [← HZ.out, HXL.out]; exact hzx)))
        have lp : ∀ k, (ldT 40 (.pointer (some ⟨w.heap.size, 0, none⟩))).run Tryz.prog (wa.drewN k) = .ok (.agg #[.int .u8 (a : Int), .int .u8 (b : Int)]) (wa.drewN k) := fun k => run_ldA ty_pair (w := wa.drewN k) HBX.out 0 (Nat.le_of_ble_eq_true rfl)
        clear hzx
        go_wp2_with fail
        refine HW.out.mono ?_
        rintro R w' ⟨rfl, rfl⟩
        go_wp2_with fail
        refine HLa.out.mono ?_
        rintro R w' ⟨rfl, rfl⟩
        go_wp2_with fail
        refine HLb.out.mono ?_
        rintro R w' ⟨rfl, rfl⟩
        go_upto_region 7 with fail
        go_quiet (fail)
        go_wp2_with fail
        refine (sureRec_c f a b _).mono ?_
        rintro R w3 ⟨rfl, hb3⟩
        have hb3' := (below_drewN (Below.refl wa.heap.size wa) _).trans hb3
        have HJ3 := Lib.hid (HJ.out.new hb3')
        have HT3 := Lib.hid (tab_below HT.out hb3')
        have HTO3 := Lib.hid (HTO.out.trans (JTo.new (V := V) hb3'))
        clear hb3 hb3' l2 l3 lx l4 hl5 hl6 lp l0 l1
        go_wp2_with fail
        refine (jwrite_c (rS f a b) w3 HJ3.out (rS_fits HFI.out HAB.out.1 HAB.out.2) HN.out HAP.out HT3.out).mono ?_
        rintro R w4 ⟨rfl, V4, hj4, ht4⟩
        have HTO4 := Lib.hid (HTO3.out.trans ht4)
        generalize wrE' q p j (rS f a b) = e at *
        clear ht4 HTO3 HJ3 HT3
        have HJ4 := Lib.hid hj4
        clear hj4
        by_cases he : e = 0
        · have hq : (e != 0) = false := by rw [he]; rfl
          subst he
          obtain ⟨S4, ao4, ac4, so4, sc4, co4, cc4, hx4⟩ := HJ4.out
          obtain ⟨b4, k4, hao4⟩ := hx4.jn.ins.ptr (show j.ah ≠ [] from HNE.out)
          subst hao4
          have HX4 := Lib.hid hx4
          clear hx4
          go_wp2_with fail
          refine (tconfirm_c gj 2 j.c j.ah.length ac4 b4 k4 69 (jcs gp (j.wrote 0) (some ⟨b4, k4, none⟩) ac4 so4 sc4 co4 cc4) w4 HX4.out.jn.blk rfl rfl (List.length_pos_iff.2 HNE.out) HX4.out.jn.cap.1 HX4.out.jn.cap.2 (by have h1 : j.c + j.ah.length < 18446744073709551616 := HX4.out.jn.fit.o; have := List.length_pos_iff.2 HNE.out; omega)).mono ?_
          rintro R w5 hp5
          obtain ⟨rfl, V5, hj5, ht5⟩ := HX4.out.sures hp5 HNE.out
          have HFin : Hid (Q (.returned (.int .i64 0)) w5) := by
            show Q _ _
            rw [HQ.out, HGO.out, if_pos trivial]
            exact ⟨rfl, V5, hj5, HTO4.out.trans ht5⟩
          clear hp5 hj5 ht5
          go_wp2
          exact HFin.out
        · have hq : (e != 0) = true := by rw [bne_iff_ne]; exact he
          have HFin : Hid (Q (.returned (.int .i64 e)) w4) := by
            show Q _ _
            rw [HQ.out, HGO.out, if_neg he]
            exact ⟨rfl, V4, HJ4.out, HTO4.out⟩
          clear he
          go_wp2
          exact HFin.out
end
end Go.Proofs.YtgeaacabpnepmaaGreatDoor
/- A manifest is swapped in, a segment begun. -/
namespace Go.Proofs.YtgeaacabpnepmaaGreatDoor
open Go.RowKit
set_option linter.unusedVariables false
set_option linter.unusedSimpArgs false
set_option maxRecDepth 20000

/-- The blocks of a manifest's lists. -/
def mbl (m : Mf) (so co : Option Addr) (x : Nat) : Prop := (m.sg ≠ [] ∧ ∃ a, so = some a ∧ a.block = x) ∨ (m.ck ≠ [] ∧ ∃ a, co = some a ∧ a.block = x)
/-- What swapping answers, where what comes then answers e2 and leaves p2 and j2; what beginning does. -/
def swA (q : Nat) (p : Pw) (j : Jn) (m : Mf) (e2 : Int) (p2 : Pw) (j2 : Jn) : Ans := if swE q m p = 0 then ⟨e2, p2, j2.hold e2⟩ else ⟨(swE q m p : Nat), swP q m p, j.hold (swE q m p : Nat)⟩
def bgA (q : Nat) (p : Pw) (j : Jn) (m : Mf) (l : List Rc) (e2 : Int) (p2 : Pw) (j2 : Jn) : Ans := if SBE p q (hdM m) l = 0 then swA q (SBP p q (hdM m) l) j m e2 p2 j2 else ⟨SBE p q (hdM m) l, SBP p q (hdM m) l, j.hold (SBE p q (hdM m) l)⟩
section
variable {V : Nat → Prop} {w w1 : World} {gj gp q kc : Nat} {dv : Value} {ko : Option Addr} {p : Pw} {j : Jn} {S : Nat → Prop} {ao so co so2 co2 : Option Addr} {ac sc cc sc2 cc2 : Nat} {R : Ending} {m : Mf}
theorem mbl_lt (hm : MfAt w m so co) {x : Nat} (h : mbl m so co x) : x < w.heap.size := by
  rcases h with ⟨h0, a, e, rfl⟩ | ⟨h0, a, e, rfl⟩
  · exact hm.ps.lt h0 a e
  · exact hm.ns.lt h0 a e
theorem MfAt.tuV {T : Nat → Prop} (hm : MfAt w m so co) (k : Tu T w w1) (hT : ∀ x, mbl m so co x → ¬ T x) : MfAt w1 m so co :=
  ⟨hm.fit, hm.ps.tuS k fun h0 a e => hT _ (.inl ⟨h0, a, e, rfl⟩), hm.ns.tuS k fun h0 a e => hT _ (.inr ⟨h0, a, e, rfl⟩), hm.l1, hm.l2⟩
theorem JX.manned (hx : JX V w gj gp q dv ko kc p j S ao ac so2 sc2 co2 cc2) (k : w.grownBy w1 (some gj)) (hc : Cells w1 gj 69 (jcs gp { j with m := m } ao ac so sc co cc)) (hf : JnF { j with m := m }) (hm : MfAt w m so co) (hsc : m.sg.length ≤ sc ∧ sc ≤ maxLen)
    (hfar : ∀ x, mbl m so co x → ¬ V x) : JC (fun x => V x ∨ mbl m so co x) w1 gj gp q dv ko kc p { j with m := m } ∧ Tu V w w1 := by
  obtain ⟨h1, h0, h2, h3, h4, h6, h5⟩ := hx
  have kt : Tu (fun x => x = gj) w w1 := Tu.of_same k
  have hgj := h6 gj (.inl rfl)
  have hjs : ∀ x, jsl { j with m := m } ao so co x → (j.ah ≠ [] ∧ ∃ a, ao = some a ∧ a.block = x) ∨ mbl m so co x := fun x hx => hx
  have hah : ∀ x, (j.ah ≠ [] ∧ ∃ a, ao = some a ∧ a.block = x) → jsl j ao so2 co2 x := fun x hx => .inl hx
  refine ⟨⟨S, ao, ac, so, sc, co, cc, ⟨h1.tu kt (fun e => (h0.far gj (.inl rfl)).1 e.symm) (fun a e hn => (h4 a e hn).2 gj (.inl rfl)) (fun x _ hx e => (h0.far gj (.inl rfl)).2 (e ▸ hx)), ⟨hc, hf, h0.ins.tu kt fun hn a e => h0.nj _ (.inl ⟨hn, a, e, rfl⟩), hm.tuV kt fun x hx e => hfar x hx (e ▸ hgj), h0.cap, hsc, fun x hx => ?_, fun x hx => ?_⟩, .inl h2, fun x hx => .inl (h3 x hx), fun a e hn => ⟨.inl (h4 a e hn).1, fun x hx => ?_⟩, fun x hx => ?_, fun x hx => ?_⟩⟩, kt.mono fun x _ e => e ▸ hgj⟩
  · rcases hx with rfl | hx
    · exact h0.far _ (.inl rfl)
    · rcases hjs x hx with hx | hx
      · exact h0.far x (.inr (hah x hx))
      · exact ⟨fun e => hfar x hx (e ▸ h2), fun hS => hfar x hx (h3 x hS)⟩
  · rcases hjs x hx with hx | hx
    · exact h0.nj x (hah x hx)
    · exact fun e => hfar x hx (e ▸ hgj)
  · rcases hx with rfl | hx
    · exact (h4 a e hn).2 _ (.inl rfl)
    · rcases hjs x hx with hx | hx
      · exact (h4 a e hn).2 x (.inr (hah x hx))
      · exact fun e2 => hfar x hx (e2 ▸ (h4 a e hn).1)
  · rcases hx with rfl | hx
    · exact .inl hgj
    · rcases hjs x hx with hx | hx
      · exact .inl (h6 x (.inr (hah x hx)))
      · exact .inr hx
  · rcases hx with hx | hx
    · exact Nat.lt_of_lt_of_le (h5 x hx) kt.size
    · exact Nat.lt_of_lt_of_le (mbl_lt hm hx) kt.size
theorem JTo.wide {A V1 : Nat → Prop} (h : JTo V w V1 w1) : JTo (fun x => V x ∨ A x) w V1 w1 := ⟨fun x hx => (h.more x hx).imp .inl id, h.tu.mono fun x _ hx => .inl hx⟩
theorem JTo.both {A V1 : Nat → Prop} (h : JTo V w V1 w1) : JTo (fun x => V x ∨ A x) w (fun x => V1 x ∨ A x) w1 := ⟨fun x hx => by
  rcases hx with hx | hx
  · exact (h.more x hx).imp .inl id
  · exact .inl (.inr hx), h.tu.mono fun x _ hx => .inl hx⟩
theorem JTo.fars {V1 : Nat → Prop} (h : JTo V w V1 w1) {x : Nat} (hx : x < w.heap.size) (hn : ¬ V x) : ¬ V1 x := fun h1 => by
  rcases h.more x h1 with h2 | h2
  · exact hn h2
  · omega
attribute [local go_sem ↓] ld_pw ld_man st_man ld_rec st_rec ld_part st_part ld_int st_int ld_u64 st_u64 ld_u8 ld_bool
set_option maxHeartbeats 4000000 in
theorem jswap_c {K : Nat} {cap : Array Value} {e2 : Int} {p2 : Pw} {j2 : Jn} (hin : ∀ (args : Array Value) (w : World), (callFunc K args).run Tryz.prog w = .ok (.enter K args) w) (w : World) (h : JC V w gj gp q dv ko kc p j) (hm : MfAt w m so co) (hsc : m.sg.length ≤ sc ∧ sc ≤ maxLen)
    (hfar : ∀ x, mbl m so co x → ¬ V x) (hjf : JnF { j with m := m }) (hpn : p.n + 5 < 1000000) (ht : Tab w)
    (hth : swE q m p = 0 → ∀ w1 V1, JC V1 w1 gj gp q dv ko kc (swP q m p) { j with m := m } → JTo (fun x => V x ∨ mbl m so co x) w V1 w1 → MfAt w1 m so co → Calls Tryz.prog K cap w1 (JPost V1 w1 gj gp q dv ko kc e2 p2 j2)) :
    Calls Tryz.prog 75 #[.pointer (some ⟨gj, 0, none⟩), .agg (mcs m so sc co cc), .func (.func K) #[] cap] w (JPost (fun x => V x ∨ mbl m so co x) w gj gp q dv ko kc (swA q p j m e2 p2 j2).e (swA q p j m e2 p2 j2).p (swA q p j m e2 p2 j2).j) := by
  have HML := Lib.hid (fun x (hx : mbl m so co x) => mbl_lt hm hx)
  have HSC := Lib.hid hsc
  have HFAR := Lib.hid hfar
  have HJF := Lib.hid hjf
  have HPN := Lib.hid hpn
  have HTH := Lib.hid hth
  have H0 := Loc.one w 60 (mcs m so sc co cc)
  have HJ0 := Lib.hid (h.new H0.be)
  have HT0 := Lib.hid (tab_below ht H0.be)
  have HM0 := Lib.hid (hm.to H0.be)
  have HB0 := Lib.hid H0.be
  have HVL := Lib.hid h.lt
  have HC0 : Hid (Cells _ w.heap.size 60 (mcs m so sc co cc)) := H0.get 0 rfl
  obtain ⟨Q, hQ⟩ : ∃ Q : Ending → World → Prop, Q = JPost (fun x => V x ∨ mbl m so co x) w gj gp q dv ko kc (swA q p j m e2 p2 j2).e (swA q p j m e2 p2 j2).p (swA q p j m e2 p2 j2).j := ⟨_, rfl⟩
  rw [← hQ]
  have HQ := Lib.hid hQ
  clear h hm hsc hfar hjf hpn ht hth H0 hQ
  go_enter Tryz.func75, Tryz.ntmps75
  go_upto_region 1 with fail
  generalize w.alloc (.cells (mcs m so sc co cc) 60) = wa at *
  obtain ⟨wd, hwd⟩ : ∃ wd, ({ wa with drawn := wa.drawn + 1 } : World) = wd := ⟨_, rfl⟩
  have hbd : Below wa.heap.size wa wd := by rw [← hwd]; exact (Below.refl _ wa).drew
  have HBd := Lib.hid (HB0.out.trans (hbd.mono HB0.out.size))
  have HJd := Lib.hid (HJ0.out.new hbd)
  have HTd := Lib.hid (tab_below HT0.out hbd)
  have HMd := Lib.hid (HM0.out.to hbd)
  have HCd := Lib.hid (cells_new HC0.out hbd)
  clear hbd HB0 HJ0 HT0 HM0 HC0
  obtain ⟨S, ao, ac, so2, sc2, co2, cc2, hx⟩ := HJd.out
  have l1 := run_ldO ty_pw hx.jn.blk 0 (v := .pointer (some ⟨gp, 0, none⟩)) rfl
  have l2 : (ldT 60 (.pointer (some ⟨w.heap.size, 0, none⟩))).run Tryz.prog wd = .ok (.agg (mcs m so sc co cc)) wd := run_ldA ty_man HCd.out 0 (Nat.le_of_ble_eq_true rfl)
  have HNM := Lib.hid HJd.out.names
  obtain ⟨S1, hp1, hS1, hb1⟩ := hx.open
  have HP1 := Lib.hid hp1
  have HS1 := Lib.hid hS1
  have HBK := Lib.hid hb1
  clear hx hp1 hS1 hb1
  refine wp_region_still_tail 5 (by kernel_rfl) (by kernel_rfl) ?_
  simp only [List.take_succ_cons, List.take_zero, List.drop_succ_cons, List.drop_zero]
  rw [hwd]
  clear hwd
  repeat still_step
  refine wpStill_nil ?_
  clear l1 l2
  go_wp2_with fail
  refine (swap_c m so sc co cc wd HP1.out HS1.out HMd.out HPN.out (Nat.le_trans HNM.out.1 (by decide)) HTd.out).mono ?_
  rintro R w2 ⟨rfl, hp2, ht2⟩
  obtain ⟨V2, S2, hx2, hj2⟩ := HBK.out w2 _ hp2 (swP_ks _ _ _) ht2
  have HX2 := Lib.hid hx2
  have HJ2 := Lib.hid hj2
  have HTO2 := Lib.hid ((JTo.new (V := V) HBd.out).trans hj2)
  have HC2 := Lib.hid (Cells.tu HCd.out hj2.tu (fun hv => by have := HVL.out _ hv; omega))
  have HM2 := Lib.hid (HMd.out.tuV hj2.tu HFAR.out)
  clear hp2 ht2 hx2 hj2 HP1 HS1 HBK
  by_cases he : swE q m p = 0
  case neg =>
    have HFin : Hid (∀ w3 V3, JC V3 w3 gj gp q dv ko kc (swP q m p) (j.hold (swE q m p : Nat)) → JTo V2 w2 V3 w3 → Q (.returned (.int .i64 (swE q m p : Nat))) w3) := fun w3 V3 h3 t3 => by
      rw [HQ.out, show swA q p j m e2 p2 j2 = ⟨(swE q m p : Nat), swP q m p, j.hold (swE q m p : Nat)⟩ from if_neg he]
      exact ⟨rfl, V3, h3, (HTO2.out.trans t3).wide⟩
    generalize swE q m p = e at *
    have hq : ((e : Int) != 0) = true := by rw [bne_iff_ne]; omega
    clear he HTH
    go_wp2_with fail
    refine (hold_c (e : Int) w2 ⟨S2, ao, ac, so2, sc2, co2, cc2, HX2.out⟩).mono ?_
    rintro R w3 ⟨rfl, V3, h3, t3⟩
    have HF := Lib.hid (HFin.out w3 V3 h3 t3)
    clear h3 t3
    go_wp2
    exact HF.out
  case pos =>
    have hq : (((swE q m p : Nat) : Int) != 0) = false := by rw [he]; rfl
    have hsa : swA q p j m e2 p2 j2 = ⟨e2, p2, j2.hold e2⟩ := if_pos he
    rw [hsa] at HQ
    have HH := Lib.hid (HTH.out he)
    generalize swE q m p = e at *
    have l2 : (ldT 60 (.pointer (some ⟨w.heap.size, 0, none⟩))).run Tryz.prog w2 = .ok (.agg (mcs m so sc co cc)) w2 := run_ldA ty_man HC2.out 0 (Nat.le_of_ble_eq_true rfl)
    obtain ⟨w3, s3, c3, q3, z3⟩ := cells_stA ty_man HX2.out.jn.blk 6 (mcs m so sc co cc) (Nat.le_of_ble_eq_true rfl) rfl (mcs_one _ _ _ _ _) (cs' := jcs gp { j with m := m } ao ac so sc co cc) rfl
    have hmn := HX2.out.manned q3 c3 HJF.out HM2.out HSC.out (fun x hx => HTO2.out.fars (HML.out x hx) (HFAR.out x hx))
    have HJ3 := Lib.hid hmn.1
    have HTO3 : Hid (JTo (fun x => V x ∨ mbl m so co x) w (fun x => V2 x ∨ mbl m so co x) w3) := (HTO2.out.both (A := mbl m so co)).trans ⟨fun x hx => .inl hx, hmn.2.mono fun x _ hx => .inl hx⟩
    have HK := Lib.hid (HH.out w3 _ HJ3.out HTO3.out (HM2.out.tuV (Tu.of_same q3) (fun x hx e => (HTO2.out.fars (HML.out x hx) (HFAR.out x hx)) (e ▸ HX2.out.vj gj (.inl rfl)))))
    clear hsa he hmn c3 q3 z3 HTH HH HX2 HJ2 HC2 HM2 HJ3
    go_wp2_with fail
    refine HK.out.mono ?_
    rintro R w4 ⟨rfl, V4, hj4, ht4⟩
    have HJ4 := Lib.hid hj4
    have HTO4 := Lib.hid (HTO3.out.trans ht4)
    clear hj4 ht4 HK s3 l2
    go_wp2_with fail
    refine (hold_c e2 w4 HJ4.out).mono ?_
    rintro R w5 ⟨rfl, V5, hj5, ht5⟩
    have HFin : Hid (Q (.returned (.int .i64 e2)) w5) := by
      show Q _ _
      rw [HQ.out]
      exact ⟨rfl, V5, hj5, HTO4.out.trans ht5⟩
    clear hj5 ht5
    go_wp2
    exact HFin.out
end
end Go.Proofs.YtgeaacabpnepmaaGreatDoor
/- A disk as a map from names to files: what each write, and a crash, makes of it. Nothing of the program. -/
namespace Go.Proofs.YtgeaacabpnepmaaGreatDoor
open Go.RowKit
set_option linter.unusedVariables false
set_option linter.unusedSimpArgs false
set_option maxRecDepth 20000

theorem fnd_mem {n : List UInt8} {E : List Ent} {f : Ent} (h : fnd n E = some f) : f ∈ E := (fndK_some h).1
section
variable {q : Nat} {E : List Ent}
end
theorem wr_fu (k q : Nat) (n t : List UInt8) (p : Pw) : (p.wr k q n t).fu = p.fu := by
  unfold Pw.wr Pw.after
  split
  · rfl
  · split <;> rfl
theorem wr_ks (k q : Nat) (n t : List UInt8) (p : Pw) : (p.wr k q n t).ks = p.ks := swa_ks _ _
theorem wr_n (k q : Nat) (n t : List UInt8) (p : Pw) : (p.wr k q n t).n ≤ p.n + 1 := swa_n _ _
end Go.Proofs.YtgeaacabpnepmaaGreatDoor
/- What was told, and the records that say so: bodies of segments, chains of them, and what is read of them. Nothing of the program. -/
namespace Go.Proofs.YtgeaacabpnepmaaGreatDoor
open Go.RowKit
set_option linter.unusedVariables false
set_option linter.unusedSimpArgs false
set_option maxRecDepth 20000

/-- Part of a list, from a to b. -/
def sl {α : Type} (l : List α) (a b : Nat) : List α := (l.drop a).take (b - a)
section
variable {U U' : List Nat} {P P' : List (Nat × Nat)} {c o c' o' c1 o1 : Nat} {l l' : List Rc}
end
end Go.Proofs.YtgeaacabpnepmaaGreatDoor
/- Chains of segments on a disk: what an opening reads of them, wherever the last one is cut. Nothing of the program. -/
namespace Go.Proofs.YtgeaacabpnepmaaGreatDoor
open Go.RowKit
set_option linter.unusedVariables false
set_option linter.unusedSimpArgs false
set_option maxRecDepth 20000

section
variable {q ep : Nat} {U : List Nat} {P : List (Nat × Nat)} {p : Pw}
end
end Go.Proofs.YtgeaacabpnepmaaGreatDoor
/- What clearing, beginning a segment and a swap make of a disk, as a map; what stays true of it wherever the power goes off. Nothing of the program. -/
namespace Go.Proofs.YtgeaacabpnepmaaGreatDoor
open Go.RowKit
set_option linter.unusedVariables false
set_option linter.unusedSimpArgs false
set_option maxRecDepth 20000

/-! The keeps, the fuse and the count of a power. -/
theorem clr_says (q : Nat) (ks : List (List UInt8)) : ∀ (l : List (List UInt8)) (p : Pw), (clr q ks l p).2.ks = p.ks ∧ (clr q ks l p).2.fu = p.fu ∧ (clr q ks l p).2.n ≤ p.n + l.length
  | [], p => ⟨rfl, rfl, Nat.le_refl _⟩
  | n :: l, p => by
    rw [List.length_cons]
    unfold clr
    split
    · obtain ⟨h1, h2, h3⟩ := clr_says q ks l p
      exact ⟨h1, h2, by omega⟩
    · have hn := wr_n 4 q n [] p
      split
      · obtain ⟨h1, h2, h3⟩ := clr_says q ks l (p.wr 4 q n [])
        exact ⟨h1.trans (wr_ks _ _ _ _ _), h2.trans (wr_fu _ _ _ _ _), by omega⟩
      · exact ⟨wr_ks _ _ _ _ _, wr_fu _ _ _ _ _, by show (p.wr 4 q n []).n ≤ _; omega⟩
theorem bP_fu (q : Nat) (m t : List UInt8) (p : Pw) : ∀ j, (bP q m t p j).fu = p.fu
  | 0 => rfl
  | j + 1 => (wr_fu _ _ _ _ _).trans (bP_fu q m t p j)
theorem bPow_fu (q : Nat) (m t : List UInt8) (p : Pw) : (bPow q m t p).fu = p.fu ∧ (bPow q m t p).n ≤ p.n + 3 := by
  have h1 := bP_n q m t p 1
  have h2 := bP_n q m t p 2
  have h3 := bP_n q m t p 3
  unfold bPow
  split
  · exact ⟨bP_fu _ _ _ _ _, by omega⟩
  · split
    · exact ⟨bP_fu _ _ _ _ _, by omega⟩
    · exact ⟨bP_fu _ _ _ _ _, by omega⟩
theorem SBP_says (p : Pw) (q : Nat) (h : Rc) (l : List Rc) : (SBP p q h l).ks = p.ks ∧ (SBP p q h l).fu = p.fu ∧ (SBP p q h l).n ≤ p.n + 3 := by
  unfold SBP
  split
  · exact ⟨bPow_ks _ _ _ _, bPow_fu _ _ _ _⟩
  · exact ⟨rfl, rfl, by omega⟩
theorem stP_fu (q : Nat) (t : List UInt8) (p : Pw) (j : Nat) : (stP q t p j).fu = p.fu := by
  unfold stP
  (repeat' split) <;> first | exact wr_fu _ _ _ _ _ | rfl
theorem swR_fu (q : Nat) (t : List UInt8) : ∀ (f j : Nat) (p : Pw), (swR q t f j p).2.fu = p.fu
  | 0, _, _ => rfl
  | f + 1, j, p => by
    unfold swR
    split
    · rw [swR_fu q t f, stP_fu]
    · exact stP_fu _ _ _ _
theorem swP_says (q : Nat) (m : Mf) (p : Pw) : (swP q m p).ks = p.ks ∧ (swP q m p).fu = p.fu ∧ (swP q m p).n ≤ p.n + 5 := by
  refine ⟨swP_ks _ _ _, ?_, swP_n _ _ _⟩
  unfold swP
  split
  · exact swR_fu _ _ _ _ _
  · rfl
/-! What stays true. -/
/-- On, and the disk's files are these. -/
structure OnF (q : Nat) (p : Pw) (f : List UInt8 → Option Ent) : Prop where
  off : p.off = false
  good : DGood q p.E
  fs : ∀ n, fnd n p.E = f n
section
variable {Q : List Ent → Prop} {q : Nat} {p : Pw}
end
end Go.Proofs.YtgeaacabpnepmaaGreatDoor
/- A segment is begun. -/
namespace Go.Proofs.YtgeaacabpnepmaaGreatDoor
open Go.RowKit
set_option linter.unusedVariables false
set_option linter.unusedSimpArgs false
set_option maxRecDepth 20000

section
variable {V : Nat → Prop} {w w1 : World} {gj gp q kc : Nat} {dv : Value} {ko : Option Addr} {p : Pw} {j : Jn} {so co ao : Option Addr} {sc cc ac : Nat} {m : Mf}
attribute [local go_sem ↓] ld_pw ld_man st_man ld_rec st_rec ld_part st_part ld_int st_int ld_u64 st_u64 ld_u8 ld_bool
set_option maxHeartbeats 4000000 in
theorem jbegin_c {K : Nat} {cap : Array Value} {e2 : Int} {p2 : Pw} {j2 : Jn} (l : List Rc) (hin : ∀ (args : Array Value) (w : World), (callFunc K args).run Tryz.prog w = .ok (.enter K args) w) (w : World) (h : JC V w gj gp q dv ko kc p j) (hm : MfAt w m so co) (hsc : m.sg.length ≤ sc ∧ sc ≤ maxLen)
    (hfar : ∀ x, mbl m so co x → ¬ V x) (hjf : JnF { j with m := m }) (hpn : p.n + 8 < 1000000) (ht : Tab w) (hV : ¬ V 1) (hl : ∀ r ∈ l, r.fit) (hll : l.length ≤ 400000) (ha : RcsAt w ao l)
    (hth : SBE p q (hdM m) l = 0 → swE q m (SBP p q (hdM m) l) = 0 → ∀ w1 V1, JC V1 w1 gj gp q dv ko kc (swP q m (SBP p q (hdM m) l)) { j with m := m } → JTo (fun x => V x ∨ mbl m so co x) w V1 w1 → MfAt w1 m so co → Calls Tryz.prog K cap w1 (JPost V1 w1 gj gp q dv ko kc e2 p2 j2)) :
    Calls Tryz.prog 71 #[.pointer (some ⟨gj, 0, none⟩), .agg (mcs m so sc co cc), .slice ao l.length ac, .func (.func K) #[] cap] w (JPost (fun x => V x ∨ mbl m so co x) w gj gp q dv ko kc (bgA q p j m l e2 p2 j2).e (bgA q p j m l e2 p2 j2).p (bgA q p j m l e2 p2 j2).j) := by
  have HML := Lib.hid (fun x (hx : mbl m so co x) => mbl_lt hm hx)
  have HSC := Lib.hid hsc
  have HFAR := Lib.hid hfar
  have HJF := Lib.hid hjf
  have HPN := Lib.hid hpn
  have HTH := Lib.hid hth
  have HV := Lib.hid hV
  have HL := Lib.hid (And.intro hl hll)
  have HA := Lib.hid ha
  have HIN := Lib.hid hin
  have HMF := Lib.hid (hdM_fit hm.fit)
  have H0 := Loc.one w 60 (mcs m so sc co cc)
  have HJ := Lib.hid h
  have HT := Lib.hid ht
  have HM := Lib.hid hm
  have HVL := Lib.hid h.lt
  have l0 : (ldT 60 (.pointer (some ⟨w.heap.size, 0, none⟩))).run Tryz.prog _ = .ok (.agg (mcs m so sc co cc)) _ := H0.ldA ty_man 0 rfl 0 (vs := mcs m so sc co cc) rfl (Nat.le_of_ble_eq_true rfl)
  have H0' := Lib.hid H0
  obtain ⟨Q, hQ⟩ : ∃ Q : Ending → World → Prop, Q = JPost (fun x => V x ∨ mbl m so co x) w gj gp q dv ko kc (bgA q p j m l e2 p2 j2).e (bgA q p j m l e2 p2 j2).p (bgA q p j m l e2 p2 j2).j := ⟨_, rfl⟩
  rw [← hQ]
  have HQ := Lib.hid hQ
  clear h hm hsc hfar hjf hpn ht hth H0 hQ hV hl hll ha hin
  go_enter Tryz.func71, Tryz.ntmps71
  go_upto_region 1 with fail
  generalize w.alloc (.cells (mcs m so sc co cc) 60) = wa at *
  go_wp2_with fail
  refine (newest_c m so sc co cc wa (HM.out.to H0'.out.be) HSC.out).mono ?_
  rintro R w1 ⟨rfl, hb1⟩
  obtain ⟨g2, w2, z2, s2, H2, q2⟩ := (H0'.out.to hb1).newA ty_part #[.int .u64 0, .int .u64 0] #[.int .u64 ((lastS m.sg).1 : Int), .int .u64 ((lastS m.sg).2 : Int)] rfl rfl rfl
  replace H2 : Loc w.heap.size w w2 [(w.heap.size, 60, mcs m so sc co cc), (g2, 122, #[.int .u64 ((lastS m.sg).1 : Int), .int .u64 ((lastS m.sg).2 : Int)])] := H2
  have l3 := H2.ldO ty_u64 1 rfl 0 (v := .int .u64 ((lastS m.sg).1 : Int)) rfl
  have l4 := H2.ldO ty_u64 1 rfl 1 (v := .int .u64 ((lastS m.sg).2 : Int)) rfl
  have l5 := H2.ldO ty_u64 0 rfl 0 (v := .int .u64 (m.ep : Int)) rfl
  have l6 := H2.ldO ty_u8 0 rfl 1 (v := .int .u8 (m.pl : Int)) rfl
  obtain ⟨g3, w3, z3, s3, H3, q3⟩ := H2.newA ty_rec #[.int .i64 0, .int .u64 0, .int .u8 0, .int .u8 0, .int .u8 0, .int .u64 0, .int .u64 0, .int .u64 0, .int .u8 0] #[.int .i64 3, .int .u64 0, .int .u8 0, .int .u8 0, .int .u8 0, .int .u64 ((lastS m.sg).1 : Int), .int .u64 ((lastS m.sg).2 : Int), .int .u64 (m.ep : Int), .int .u8 (m.pl : Int)] rfl rfl rfl
  have H3' : Hid (Loc w.heap.size w w3 [(w.heap.size, 60, mcs m so sc co cc), (g2, 122, #[.int .u64 ((lastS m.sg).1 : Int), .int .u64 ((lastS m.sg).2 : Int)]), (g3, 114, rcs (hdM m))]) := H3
  clear H3 H2 q2 q3 hb1 H0'
  go_upto_region 3 with fail
  clear l0 l3 l4 l5 l6 s2 s3 z2 z3
  obtain ⟨wd, hwd⟩ : ∃ wd, ({ w3 with drawn := w3.drawn + 1 } : World) = wd := ⟨_, rfl⟩
  have hbd : Below w3.heap.size w3 wd := by rw [← hwd]; exact (Below.refl _ w3).drew
  have HLd := Lib.hid (H3'.out.to hbd)
  have HJd := Lib.hid (HJ.out.new HLd.out.be)
  have HTd := Lib.hid (tab_below HT.out HLd.out.be)
  have HCd : Hid (Cells wd w.heap.size 60 (mcs m so sc co cc)) := HLd.out.get 0 rfl
  have hbx := HLd.out.bge 2 rfl
  clear hbd H3'
  obtain ⟨S, ao2, ac2, so2, sc2, co2, cc2, hx⟩ := HJd.out
  have l1 := run_ldO ty_pw hx.jn.blk 0 (v := .pointer (some ⟨gp, 0, none⟩)) rfl
  have l2 : (ldT 114 (.pointer (some ⟨g3, 0, none⟩))).run Tryz.prog wd = .ok (.agg (rcs (hdM m))) wd := HLd.out.ldA ty_rec 2 rfl 0 (vs := rcs (hdM m)) rfl (Nat.le_of_ble_eq_true rfl)
  obtain ⟨S1, hp1, hS1, hb1⟩ := hx.open
  have HP1 := Lib.hid hp1
  have HS1 := Lib.hid hS1
  have HBK := Lib.hid hb1
  clear hx hp1 hS1 hb1 hbx
  refine wp_region_still_tail 6 (by kernel_rfl) (by kernel_rfl) ?_
  simp only [List.take_succ_cons, List.take_zero, List.drop_succ_cons, List.drop_zero]
  rw [hwd]
  clear hwd
  repeat still_step
  refine wpStill_nil ?_
  clear l1 l2
  go_wp2_with fail
  refine (sbegin_c (hdM m) l ao ac wd HP1.out HS1.out HMF.out HL.out.1 HL.out.2 (RcsAt.new HA.out HLd.out.be) (by have := HPN.out; omega) HTd.out).mono ?_
  rintro R w4 ⟨rfl, hp4, ht4⟩
  obtain ⟨V2, S2, hx4, hj4⟩ := HBK.out w4 _ hp4 (SBP_ks _ _ _ _) ht4
  have HJ4 : Hid (JC V2 w4 gj gp q dv ko kc (SBP p q (hdM m) l) j) := ⟨S2, ao2, ac2, so2, sc2, co2, cc2, hx4⟩
  have HTO4 := Lib.hid ((JTo.new (V := V) HLd.out.be).trans hj4)
  have HC4 := Lib.hid (Cells.tu HCd.out hj4.tu (fun hv => by have := HVL.out _ hv; omega))
  have HM4 := Lib.hid ((HM.out.to HLd.out.be).tuV hj4.tu HFAR.out)
  have HT4 := Lib.hid (tab_tu HT.out HTO4.out.tu HV.out)
  clear hp4 ht4 hx4 hj4 HP1 HS1 HBK HTd HJd HCd HLd
  by_cases he : SBE p q (hdM m) l = 0
  case neg =>
    have HFin : Hid (∀ w5 V5, JC V5 w5 gj gp q dv ko kc (SBP p q (hdM m) l) (j.hold (SBE p q (hdM m) l)) → JTo V2 w4 V5 w5 → Q (.returned (.int .i64 (SBE p q (hdM m) l))) w5) := fun w5 V5 h5 t5 => by
      rw [HQ.out, show bgA q p j m l e2 p2 j2 = ⟨SBE p q (hdM m) l, SBP p q (hdM m) l, j.hold (SBE p q (hdM m) l)⟩ from if_neg he]
      exact ⟨rfl, V5, h5, (HTO4.out.trans t5).wide⟩
    generalize SBE p q (hdM m) l = e at *
    have hq : (e != 0) = true := by rw [bne_iff_ne]; exact he
    clear he HTH
    go_wp2_with fail
    refine (hold_c e w4 HJ4.out).mono ?_
    rintro R w5 ⟨rfl, V5, h5, t5⟩
    have HF := Lib.hid (HFin.out w5 V5 h5 t5)
    clear h5 t5
    go_wp2
    exact HF.out
  case pos =>
    have hq : (SBE p q (hdM m) l != 0) = false := by rw [he]; rfl
    have hsa : bgA q p j m l e2 p2 j2 = swA q (SBP p q (hdM m) l) j m e2 p2 j2 := if_pos he
    rw [hsa] at HQ
    have HH := Lib.hid (HTH.out he)
    clear HTH hsa
    generalize SBE p q (hdM m) l = e at *
    have HPN2 : Hid ((SBP p q (hdM m) l).n + 5 < 1000000) := by
      have h1 := (SBP_says p q (hdM m) l).2.2
      have h2 := HPN.out
      show _ < _
      omega
    generalize SBP p q (hdM m) l = P at *
    have l2 : (ldT 60 (.pointer (some ⟨w.heap.size, 0, none⟩))).run Tryz.prog w4 = .ok (.agg (mcs m so sc co cc)) w4 := run_ldA ty_man HC4.out 0 (Nat.le_of_ble_eq_true rfl)
    clear he
    go_wp2_with fail
    refine (jswap_c (e2 := e2) (p2 := p2) (j2 := j2) HIN.out w4 HJ4.out HM4.out HSC.out (fun x hx => HTO4.out.fars (HML.out x hx) (HFAR.out x hx)) HJF.out HPN2.out HT4.out fun h0 w5 V5 h5 t5 m5 => HH.out h0 w5 V5 h5 ((HTO4.out.both (A := mbl m so co)).trans t5) m5).mono ?_
    rintro R w5 ⟨rfl, V5, h5, t5⟩
    have HFin : Hid (Q (.returned (.int .i64 (swA q P j m e2 p2 j2).e)) w5) := by
      show Q _ _
      rw [HQ.out]
      exact ⟨rfl, V5, h5, (HTO4.out.both (A := mbl m so co)).trans t5⟩
    clear h5 t5 l2
    go_wp2
    exact HFin.out
end
end Go.Proofs.YtgeaacabpnepmaaGreatDoor
