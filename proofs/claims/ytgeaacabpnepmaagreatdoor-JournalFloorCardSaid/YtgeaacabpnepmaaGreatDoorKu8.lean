/- Texts of the walk. -/
import Derived.Test.YtgeaacabpnepmaaGreatDoorKs8
/- Own, Sure. -/
namespace Go.Proofs.YtgeaacabpnepmaaGreatDoor
open Go.RowKit
set_option linter.unusedVariables false
set_option linter.unusedSimpArgs false
set_option maxRecDepth 20000

section
variable {V : Nat → Prop} {w w1 : World} {gj gp q kc : Nat} {dv : Value} {ko : Option Addr} {p : Pw} {j : Jn} {S : Nat → Prop} {ao so co : Option Addr} {ac sc cc : Nat} {R : Ending}
theorem JX.cman (hx : JX V w gj gp q dv ko kc p j S ao ac so sc co cc) (k : Tu (fun x => x = gj) w w1) : MfAt w1 j.m so co :=
  have hn : ∀ x, jsl j ao so co x → x ≠ gj := hx.jn.nj
  ⟨hx.jn.man.fit, hx.jn.man.ps.tuS k fun h0 a e => hn _ (.inr (.inl ⟨h0, a, e, rfl⟩)), hx.jn.man.ns.tuS k fun h0 a e => hn _ (.inr (.inr ⟨h0, a, e, rfl⟩)), hx.jn.man.l1, hx.jn.man.l2⟩
theorem JX.owns {i : Nat} (hx : JX V w gj gp q dv ko kc p j S ao ac so sc co cc) (hp : OwnPost w gj 69 (jcs gp j ao ac so sc co cc) 2 (j.ah ++ [i]) R w1) (hi : i < 64) (ho : j.c + j.ah.length + 1 < 18446744073709551616) (hl : j.ah.length ≤ 131071) :
    R = .returned (.tuple #[]) ∧ ∃ V', JC V' w1 gj gp q dv ko kc p { j with ah := j.ah ++ [i] } ∧ JTo V w V' w1 := by
  obtain ⟨rfl, ao2, ac2, h1, h2, h3, h4, h5, h6, h7⟩ := hp
  refine ⟨rfl, ?_⟩
  have kt : Tu (fun x => x = gj) w w1 := Tu.of_same h7
  have hf := hx.jn.fit
  refine hx.turn (j' := { j with ah := j.ah ++ [i] }) (ao := ao2) (ac := ac2) (so := so) (sc := sc) (co := co) (cc := cc) kt h1 ⟨?_, ?_, ?_, hf.sy, hf.os, hf.ap, hf.rows, hf.pl, hf.sgl, hf.ckl⟩ h2 (hx.cman kt) ⟨h4, h5⟩ hx.jn.scap fun x hx => ?_
  · show j.c + (j.ah ++ [i]).length < _
    simp; omega
  · intro x hx
    rcases List.mem_append.1 hx with hx | hx
    · exact hf.ah x hx
    · rw [List.mem_singleton] at hx; omega
  · show (j.ah ++ [i]).length ≤ _
    simp; omega
  · rcases hx with ⟨h0, a, e, rfl⟩ | h | h
    · exact .inr (h3 a e)
    · exact .inl (.inr (.inl h))
    · exact .inl (.inr (.inr h))
theorem JX.sures {b k : Nat} (hx : JX V w gj gp q dv ko kc p j S (some ⟨b, k, none⟩) ac so sc co cc) (hp : CfPost w gj 69 (jcs gp j (some ⟨b, k, none⟩) ac so sc co cc) 2 j.c (some ⟨b, k, none⟩) j.ah.length ac R w1) (h0 : j.ah ≠ []) :
    R = .returned (.tuple #[]) ∧ ∃ V', JC V' w1 gj gp q dv ko kc p { j with c := j.c + 1, ah := j.ah.tail } ∧ JTo V w V' w1 := by
  obtain ⟨rfl, ao2, h1, h2, h7⟩ := hp
  refine ⟨rfl, ?_⟩
  have kt : Tu (fun x => x = gj) w w1 := Tu.of_same h7
  have hf := hx.jn.fit
  have hfo := hf.o
  have hfl := hf.ahl
  have hc := hx.jn.cap
  have hi := hx.jn.ins.tu kt fun h0 a e => hx.jn.nj _ (.inl ⟨h0, a, e, rfl⟩)
  have hfa := hf.ah
  have hjs := hx.jn.nj
  obtain ⟨r, c, ah, sy, os, m, ap, br⟩ := j
  dsimp only at *
  obtain ⟨x, l, rfl⟩ := List.exists_cons_of_ne_nil h0
  simp only [List.length_cons] at hc hfo hfl
  have hb : l ≠ [] → ao2 = some ⟨b, k + 1, none⟩ := fun hl => by
    have := List.length_pos_iff.2 hl
    rcases h2 b k rfl with ⟨e, _⟩ | ⟨_, e⟩
    · omega
    · exact e
  refine hx.turn (j' := ⟨r, c + 1, l, sy, os, m, ap, br⟩) (ao := ao2) (ac := ac - 1) (so := so) (sc := sc) (co := co) (cc := cc) kt h1 ⟨?_, fun x hx => hfa x (List.mem_cons_of_mem _ hx), ?_, hf.sy, hf.os, hf.ap, hf.rows, hf.pl, hf.sgl, hf.ckl⟩ ?_ (hx.cman kt) ⟨?_, ?_⟩ hx.jn.scap fun x hx => ?_
  · show c + 1 + l.length < _
    omega
  · show l.length ≤ _
    omega
  · by_cases hl : l = []
    · show InAt w1 ao2 l
      rw [hl]; exact InAt.nil _ _
    · rw [hb hl]; exact hi.tail
  · show l.length ≤ _
    omega
  · omega
  · rcases hx with ⟨h0, a, e, rfl⟩ | h | h
    · rw [hb h0] at e
      cases e
      exact .inl (.inl ⟨by simp, _, rfl, rfl⟩)
    · exact .inl (.inr (.inl h))
    · exact .inl (.inr (.inr h))
attribute [local go_sem ↓] ld_pw ld_man ld_inps ld_int st_int ld_u64 st_u64 ld_u8 ld_bool
set_option maxHeartbeats 4000000 in
theorem jown_c (f i : Nat) (w : World) (h : JC V w gj gp q dv ko kc p j) (hn : p.n < 1000000) (hap : j.ap < 1000000) (ht : Tab w) (hfi : f < 18446744073709551616) :
    Calls Tryz.prog 16 #[.pointer (some ⟨gj, 0, none⟩), .int .u64 (f : Int), .int .u8 (i : Int)] w (JPost V w gj gp q dv ko kc (jOwn q p j f i).e (jOwn q p j f i).p (jOwn q p j f i).j) := by
  have HW := Lib.hid (works_c w h)
  have HO := Lib.hid (h.owned w)
  have HJ := Lib.hid h
  have HN := Lib.hid hn
  have HAP := Lib.hid hap
  have HT := Lib.hid ht
  have HFI := Lib.hid hfi
  obtain ⟨Q, hQ⟩ : ∃ Q : Ending → World → Prop, Q = JPost V w gj gp q dv ko kc (jOwn q p j f i).e (jOwn q p j f i).p (jOwn q p j f i).j := ⟨_, rfl⟩
  rw [← hQ]
  have HQ := Lib.hid hQ
  clear h hn hap ht hfi hQ
  cases hb : j.br
  case true =>
    have HFin : Hid (Q (.returned (.int .i64 13)) w) := by
      show Q _ _
      rw [HQ.out, show jOwn q p j f i = ⟨13, p, j⟩ from if_pos hb]
      exact ⟨rfl, V, HJ.out, JTo.refl _ _⟩
    rw [hb] at HW
    go_enter Tryz.func16, Tryz.ntmps16
    go_wp2_with fail
    refine HW.out.mono ?_
    rintro R w' ⟨rfl, rfl⟩
    go_wp2
    exact HFin.out
  case false =>
    have HJ0 : Hid (jOwn q p j f i = if 64 ≤ i then ⟨2, p, j⟩ else if f ≠ j.ow ∨ f = 18446744073709551615 then ⟨11, p, j⟩ else if 12 ≤ j.ah.length then ⟨7, p, j⟩ else if wrE' q p j (rO f i) = 0 then ⟨0, wrP q p j (rO f i), { j.wrote 0 with ah := j.ah ++ [i] }⟩ else ⟨wrE' q p j (rO f i), wrP q p j (rO f i), j.wrote (wrE' q p j (rO f i))⟩) := if_neg (by rw [hb]; exact Bool.false_ne_true)
    rw [hb] at HW
    by_cases hi : i < 64
    case neg =>
      have HL := Lib.hid (jlegal_c i w)
      rw [decide_eq_false hi] at HL
      have HFin : Hid (Q (.returned (.int .i64 2)) w) := by
        show Q _ _
        rw [HQ.out, HJ0.out, if_pos (by omega)]
        exact ⟨rfl, V, HJ.out, JTo.refl _ _⟩
      clear hi
      go_enter Tryz.func16, Tryz.ntmps16
      go_wp2_with fail
      refine HW.out.mono ?_
      rintro R w' ⟨rfl, rfl⟩
      go_wp2_with fail
      refine HL.out.mono ?_
      rintro R w' ⟨rfl, rfl⟩
      go_wp2
      exact HFin.out
    case pos =>
      have HL := Lib.hid (jlegal_c i w)
      rw [decide_eq_true hi] at HL
      have HI := Lib.hid hi
      clear hi
      by_cases hf : f ≠ j.ow ∨ f = 18446744073709551615
      case pos =>
        have HFin : Hid (∀ k, Q (.returned (.int .i64 11)) (w.drewN k)) := fun k => by
          show Q _ _
          rw [HQ.out, HJ0.out, if_neg (by have := HI.out; omega), if_pos hf]
          exact ⟨rfl, V, HJ.out.new (below_drewN (Below.refl _ _) k), JTo.new (below_drewN (Below.refl _ _) k)⟩
        obtain ⟨b1, hb1⟩ : ∃ b1, ((f : Int) != (j.ow : Int)) = b1 := ⟨_, rfl⟩
        obtain ⟨b2, hb2⟩ : ∃ b2, ((f : Int) == 18446744073709551615) = b2 := ⟨_, rfl⟩
        have hbb : b1 = true ∨ (b1 = false ∧ b2 = true) := by
          subst hb1 hb2
          rcases hf with h | h
          · left; rw [bne_iff_ne]; omega
          · by_cases h1 : f = j.ow
            · right; refine ⟨?_, by rw [beq_iff_eq]; omega⟩
              rw [← h1]; simp
            · left; rw [bne_iff_ne]; omega
        clear hf
        rcases hbb with rfl | ⟨rfl, rfl⟩
        all_goals
          go_enter Tryz.func16, Tryz.ntmps16
          go_wp2_with fail
          refine HW.out.mono ?_
          rintro R w' ⟨rfl, rfl⟩
          go_wp2_with fail
          refine HL.out.mono ?_
          rintro R w' ⟨rfl, rfl⟩
          go_wp2_with fail
          refine HO.out.mono ?_
          rintro R w' ⟨rfl, k, rfl⟩
          go_wp2
          exact HFin.out k
      case neg =>
        have hfo : f = j.ow := by omega
        have hfm : f ≠ 18446744073709551615 := by omega
        have hb1 : ((f : Int) != (j.ow : Int)) = false := by rw [hfo]; simp
        have hb2 : ((f : Int) == 18446744073709551615) = false := beq_eq_false_iff_ne.2 (by omega)
        have HJ1 : Hid (jOwn q p j f i = if 12 ≤ j.ah.length then ⟨7, p, j⟩ else if wrE' q p j (rO f i) = 0 then ⟨0, wrP q p j (rO f i), { j.wrote 0 with ah := j.ah ++ [i] }⟩ else ⟨wrE' q p j (rO f i), wrP q p j (rO f i), j.wrote (wrE' q p j (rO f i))⟩) := by
          show _ = _
          rw [HJ0.out, if_neg (by have := HI.out; omega), if_neg hf]
        have HFO := Lib.hid hfo
        have HFM := Lib.hid hfm
        clear hf hfo hfm HJ0
        go_enter Tryz.func16, Tryz.ntmps16
        go_wp2_with fail
        refine HW.out.mono ?_
        rintro R w' ⟨rfl, rfl⟩
        go_wp2_with fail
        refine HL.out.mono ?_
        rintro R w' ⟨rfl, rfl⟩
        go_wp2_with fail
        refine HO.out.mono ?_
        rintro R w' ⟨rfl, k, rfl⟩
        have HJ2 := Lib.hid (HJ.out.new (below_drewN (Below.refl _ _) k))
        have HTO2 := Lib.hid (JTo.new (V := V) (below_drewN (Below.refl w.heap.size w) k))
        have HT2 := Lib.hid (tab_below HT.out (below_drewN (Below.refl _ _) k))
        generalize w.drewN k = w2 at *
        obtain ⟨S, ao, ac, so, sc, co, cc, hx⟩ := HJ2.out
        have l1 := run_ldO ty_inps hx.jn.blk 3 (v := .slice ao j.ah.length ac) rfl
        clear hx
        by_cases h12 : 12 ≤ j.ah.length
        case pos =>
          have hle : (12 : Int) ≤ (j.ah.length : Int) := by omega
          have HFin : Hid (Q (.returned (.int .i64 7)) w2) := by
            show Q _ _
            rw [HQ.out, HJ1.out, if_pos h12]
            exact ⟨rfl, V, HJ2.out, HTO2.out⟩
          clear h12
          go_wp2
          exact HFin.out
        case neg =>
          have hle : ¬ (12 : Int) ≤ (j.ah.length : Int) := by omega
          have HLE := Lib.hid h12
          clear h12
          go_wp2_with fail
          refine (ownRec_c f i w2).mono ?_
          rintro R w3 ⟨rfl, hb3⟩
          have HJ3 := Lib.hid (HJ2.out.new hb3)
          have HT3 := Lib.hid (tab_below HT2.out hb3)
          have HTO3 := Lib.hid (HTO2.out.trans (JTo.new (V := V) hb3))
          clear hb3 l1 HJ2 HTO2 HT2
          go_wp2_with fail
          refine (jwrite_c (rO f i) w3 HJ3.out (rO_fit HFI.out HI.out) HN.out HAP.out HT3.out).mono ?_
          rintro R w4 ⟨rfl, V4, hj4, ht4⟩
          rw [if_neg HLE.out] at HJ1
          have HTO4 := Lib.hid (HTO3.out.trans ht4)
          generalize wrE' q p j (rO f i) = e at *
          clear ht4 HTO3 HJ3 HT3
          have HJ4 := Lib.hid hj4
          clear hj4
          by_cases he : e = 0
          · have hq : (e != 0) = false := by rw [he]; rfl
            subst he
            obtain ⟨S4, ao4, ac4, so4, sc4, co4, cc4, hx4⟩ := HJ4.out
            have HX4 := Lib.hid hx4
            have hcp := hx4.jn.cap
            have HC4 := Lib.hid hcp
            clear hx4 hcp
            go_wp2_with fail
            refine (town_c gj 2 j.ah.length ac4 i 69 (jcs gp (j.wrote 0) ao4 ac4 so4 sc4 co4 cc4) ao4 j.ah w4 HX4.out.jn.blk rfl HX4.out.jn.ins rfl HC4.out.1 (by have := HLE.out; omega) (fun e => by
              by_cases h0 : j.ah = []
              · rw [h0]; rfl
              · obtain ⟨b, o, e2⟩ := HX4.out.jn.ins.ptr h0
                rw [e] at e2; cases e2)).mono ?_
            rintro R w5 hp5
            obtain ⟨rfl, V5, hj5, ht5⟩ := HX4.out.owns hp5 HI.out (by have h1 := HFO.out; have h2 := HFM.out; have h3 := HFI.out; unfold Jn.ow at h1; show j.c + j.ah.length + 1 < _; omega) (by have := HLE.out; show j.ah.length ≤ _; omega)
            have HFin : Hid (Q (.returned (.int .i64 0)) w5) := by
              show Q _ _
              rw [HQ.out, HJ1.out, if_pos trivial]
              exact ⟨rfl, V5, hj5, HTO4.out.trans ht5⟩
            clear hp5 hj5 ht5
            go_wp2
            exact HFin.out
          · have hq : (e != 0) = true := by rw [bne_iff_ne]; exact he
            have HFin : Hid (Q (.returned (.int .i64 e)) w4) := by
              show Q _ _
              rw [HQ.out, HJ1.out, if_neg he]
              exact ⟨rfl, V4, HJ4.out, HTO4.out⟩
            clear he
            go_wp2
            exact HFin.out
end
end Go.Proofs.YtgeaacabpnepmaaGreatDoor
/- Sure. -/
namespace Go.Proofs.YtgeaacabpnepmaaGreatDoor
open Go.RowKit
set_option linter.unusedVariables false
set_option linter.unusedSimpArgs false
set_option maxRecDepth 20000

section
variable {V : Nat → Prop} {w w1 : World} {gj gp q kc : Nat} {dv : Value} {ko : Option Addr} {p : Pw} {j : Jn} {S : Nat → Prop} {ao so co : Option Addr} {ac sc cc : Nat} {R : Ending}
theorem sure_br (q : Nat) (p : Pw) (j : Jn) (f a b : Nat) (h : j.br = true) : jSure q p j f a b = ⟨13, p, j⟩ := if_pos h
theorem sure_2 (q : Nat) (p : Pw) (j : Jn) (f a b : Nat) (h : j.br = false) (h2 : 64 ≤ a ∨ 64 ≤ b) : jSure q p j f a b = ⟨2, p, j⟩ := by
  unfold jSure; rw [if_neg (by rw [h]; exact Bool.false_ne_true), if_pos h2]
theorem sure_11 (q : Nat) (p : Pw) (j : Jn) (f a b : Nat) (h : j.br = false) (h2 : a < 64 ∧ b < 64) (h3 : f ≠ j.c ∨ j.ah = []) : jSure q p j f a b = ⟨11, p, j⟩ := by
  unfold jSure; rw [if_neg (by rw [h]; exact Bool.false_ne_true), if_neg (by omega), if_pos h3]
theorem sure_14 (q : Nat) (p : Pw) (j : Jn) (f a b : Nat) (h : j.br = false) (h2 : a < 64 ∧ b < 64) (h3 : ¬ (f ≠ j.c ∨ j.ah = [])) (h4 : sid j.m.pl (a, b) ≠ j.ah.headD 0) : jSure q p j f a b = ⟨14, p, j⟩ := by
  unfold jSure; rw [if_neg (by rw [h]; exact Bool.false_ne_true), if_neg (by omega), if_neg h3, if_pos h4]
theorem sure_go (q : Nat) (p : Pw) (j : Jn) (f a b : Nat) (h : j.br = false) (h2 : a < 64 ∧ b < 64) (h3 : ¬ (f ≠ j.c ∨ j.ah = [])) (h4 : ¬ sid j.m.pl (a, b) ≠ j.ah.headD 0) : jSure q p j f a b = if wrE' q p j (rS f a b) = 0 then ⟨0, wrP q p j (rS f a b), { j.wrote 0 with c := j.c + 1, ah := j.ah.tail }⟩ else ⟨wrE' q p j (rS f a b), wrP q p j (rS f a b), j.wrote (wrE' q p j (rS f a b))⟩ := by
  unfold jSure; rw [if_neg (by rw [h]; exact Bool.false_ne_true), if_neg (by omega), if_neg h3, if_neg h4]
theorem rS_fits {f a b : Nat} (hf : f < 18446744073709551616) (ha : a < 64) (hb : b < 64) : (rS f a b).fit := by
  constructor <;> simp [rS] <;> omega
attribute [local go_sem ↓] ld_pw ld_man ld_inps ld_input ld_int st_int ld_u64 st_u64 ld_u8 ld_bool ld_pair
set_option maxHeartbeats 8000000 in
theorem jsure_c (f a b : Nat) (w : World) (h : JC V w gj gp q dv ko kc p j) (hn : p.n < 1000000) (hap : j.ap < 1000000) (ht : Tab w) (hfi : f < 18446744073709551616) :
    Calls Tryz.prog 17 #[.pointer (some ⟨gj, 0, none⟩), .int .u64 (f : Int), .agg #[.int .u8 (a : Int), .int .u8 (b : Int)]] w (JPost V w gj gp q dv ko kc (jSure q p j f a b).e (jSure q p j f a b).p (jSure q p j f a b).j) := by
  have HFI := Lib.hid hfi
  have HN := Lib.hid hn
  have HAP := Lib.hid hap
  have H0 := Loc.one w 40 #[.int .u8 (a : Int), .int .u8 (b : Int)]
  have HJ := Lib.hid (h.new H0.be)
  have HT := Lib.hid (tab_below ht H0.be)
  have HTO := Lib.hid (JTo.new (V := V) H0.be)
  have HVL := Lib.hid h.lt
  obtain ⟨Q, hQ⟩ : ∃ Q : Ending → World → Prop, Q = JPost V w gj gp q dv ko kc (jSure q p j f a b).e (jSure q p j f a b).p (jSure q p j f a b).j := ⟨_, rfl⟩
  rw [← hQ]
  have HQ := Lib.hid hQ
  have l0 := H0.ldO ty_input 0 rfl 0 (v := .int .u8 (a : Int)) rfl
  have l1 := H0.ldO ty_input 0 rfl 1 (v := .int .u8 (b : Int)) rfl
  have HBX : Hid (Cells _ w.heap.size 40 #[.int .u8 (a : Int), .int .u8 (b : Int)]) := H0.get 0 rfl
  clear h hn hap ht hfi hQ H0
  go_enter Tryz.func17, Tryz.ntmps17
  go_upto_region 1 with fail
  generalize hwa : w.alloc (.cells #[.int .u8 (a : Int), .int .u8 (b : Int)] 40) = wa at *
  clear hwa
  have HW := Lib.hid (works_c wa HJ.out)
  cases hb : j.br
  case true =>
    have HFin : Hid (Q (.returned (.int .i64 13)) wa) := by
      show Q _ _
      rw [HQ.out, sure_br _ _ _ _ _ _ hb]
      exact ⟨rfl, V, HJ.out, HTO.out⟩
    rw [hb] at HW
    go_wp2_with fail
    refine HW.out.mono ?_
    rintro R w' ⟨rfl, rfl⟩
    go_wp2
    exact HFin.out
  case false =>
    rw [hb] at HW
    have HB := Lib.hid hb
    clear hb
    have HLa := Lib.hid (jlegal_c a wa)
    have HLb := Lib.hid (jlegal_c b wa)
    by_cases ha : a < 64
    case neg =>
      rw [decide_eq_false ha] at HLa
      have HFin : Hid (Q (.returned (.int .i64 2)) wa) := by
        show Q _ _
        rw [HQ.out, sure_2 _ _ _ _ _ _ HB.out (.inl (by omega))]
        exact ⟨rfl, V, HJ.out, HTO.out⟩
      clear ha
      go_wp2_with fail
      refine HW.out.mono ?_
      rintro R w' ⟨rfl, rfl⟩
      go_wp2_with fail
      refine HLa.out.mono ?_
      rintro R w' ⟨rfl, rfl⟩
      go_wp2
      exact HFin.out
    case pos =>
    rw [decide_eq_true ha] at HLa
    by_cases hbb : b < 64
    case neg =>
      rw [decide_eq_false hbb] at HLb
      have HFin : Hid (Q (.returned (.int .i64 2)) wa) := by
        show Q _ _
        rw [HQ.out, sure_2 _ _ _ _ _ _ HB.out (.inr (by omega))]
        exact ⟨rfl, V, HJ.out, HTO.out⟩
      clear hbb ha
      go_wp2_with fail
      refine HW.out.mono ?_
      rintro R w' ⟨rfl, rfl⟩
      go_wp2_with fail
      refine HLa.out.mono ?_
      rintro R w' ⟨rfl, rfl⟩
      go_wp2_with fail
      refine HLb.out.mono ?_
      rintro R w' ⟨rfl, rfl⟩
      go_wp2
      exact HFin.out
    case pos =>
    rw [decide_eq_true hbb] at HLb
    have HAB := Lib.hid (And.intro ha hbb)
    clear ha hbb
    obtain ⟨S, ao, ac, so, sc, co, cc, hx⟩ := HJ.out
    have HX := Lib.hid hx
    have l2 := run_ldO ty_u64 hx.jn.blk 2 (v := .int .u64 (j.c : Int)) rfl
    have l3 := run_ldO ty_inps hx.jn.blk 3 (v := .slice ao j.ah.length ac) rfl
    clear hx
    by_cases hf : f ≠ j.c ∨ j.ah = []
    case pos =>
      have HFin : Hid (Q (.returned (.int .i64 11)) wa) := by
        show Q _ _
        rw [HQ.out, sure_11 _ _ _ _ _ _ HB.out HAB.out hf]
        exact ⟨rfl, V, HJ.out, HTO.out⟩
      obtain ⟨b1, hb1⟩ : ∃ b1, ((f : Int) != (j.c : Int)) = b1 := ⟨_, rfl⟩
      obtain ⟨b2, hb2⟩ : ∃ b2, ((j.ah.length : Int) == 0) = b2 := ⟨_, rfl⟩
      have hbb : b1 = true ∨ (b1 = false ∧ b2 = true) := by
        subst hb1 hb2
        rcases hf with h | h
        · left; rw [bne_iff_ne]; omega
        · by_cases h1 : f = j.c
          · right; refine ⟨?_, by rw [beq_iff_eq, h]; rfl⟩
            rw [← h1]; simp
          · left; rw [bne_iff_ne]; omega
      clear hf
      rcases hbb with rfl | ⟨rfl, rfl⟩
      all_goals
        go_wp2_with fail
        refine HW.out.mono ?_
        rintro R w' ⟨rfl, rfl⟩
        go_wp2_with fail
        refine HLa.out.mono ?_
        rintro R w' ⟨rfl, rfl⟩
        go_wp2_with fail
        refine HLb.out.mono ?_
        rintro R w' ⟨rfl, rfl⟩
        go_wp2
        exact HFin.out
    case neg =>
    have hfc : f = j.c := by
      apply Classical.byContradiction; intro h; exact hf (.inl h)
    have hne : j.ah ≠ [] := fun h => hf (.inr h)
    have hlp : 0 < j.ah.length := List.length_pos_iff.2 hne
    have hb1 : ((f : Int) != (j.c : Int)) = false := by rw [hfc]; simp
    have hb2 : ((j.ah.length : Int) == 0) = false := beq_eq_false_iff_ne.2 (by omega)
    have HF := Lib.hid hf
    have HNE := Lib.hid hne
    obtain ⟨bk, ok, hin⟩ := HX.out.jn.ins.ptr hne
    subst hin
    obtain ⟨x, l, hxl⟩ := List.exists_cons_of_ne_nil hne
    have HXL := Lib.hid hxl
    obtain ⟨b', o', e', hcx⟩ := HX.out.jn.ins 0 hlp
    cases e'
    have hcx' : wa.cell? ⟨bk, ok, none⟩ = some (.int .u8 (x : Int)) := by
      have h2 : j.ah[0]'hlp = x := by simp only [hxl]; rfl
      rw [h2] at hcx; exact hcx
    have lx := fun k => run_ldC (w := wa.drewN k) ty_input hcx'
    have l4 := fun k => run_ldO (w := wa.drewN k) ty_inps HX.out.jn.blk 3 (v := .slice (some ⟨bk, ok, none⟩) j.ah.length ac) rfl
    have l50 := fun k => run_ldO (w := wa.drewN k) ty_input HBX.out 0 (v := .int .u8 (a : Int)) rfl
    have l51 := fun k => run_ldO (w := wa.drewN k) ty_input HBX.out 1 (v := .int .u8 (b : Int)) rfl
    have hpl := HX.out.jn.fit.pl
    have l6 := fun k => run_ldO (w := wa.drewN k) ty_u8 HX.out.jn.blk 7 (v := .int .u8 (j.m.pl : Int)) rfl
    have hlz : (0 : Int) < (j.ah.length : Int) := by omega
    clear hf hfc hne hlp hxl hcx hcx'
    have hp01 : j.m.pl = 0 ∨ j.m.pl = 1 := by omega
    clear hpl
    rcases hp01 with hp | hp
    · obtain ⟨z, hz⟩ : ∃ z, z = sid j.m.pl (a, b) := ⟨_, rfl⟩
      have hl5 : ∀ k, (ldT 38 (.pointer (some ⟨w.heap.size, 0, none⟩))).run Tryz.prog (wa.drewN k) = .ok (.int .u8 (z : Int)) (wa.drewN k) := fun k => by
        have h1 : z = a := by rw [hz, hp]; rfl
        rw [h1]; exact l50 k
      have hl6 : ∀ k, (ldT 5 (.pointer (some ⟨gj, 7, none⟩))).run Tryz.prog (wa.drewN k) = .ok (.int .u8 0) (wa.drewN k) := fun k => by
        have h1 : (j.m.pl : Int) = 0 := by rw [hp]; rfl
        rw [← h1]; exact l6 k
      have HZ := Lib.hid hz
      clear hz l50 l51 l6 hp
      by_cases hzx : z = x
      case neg =>
        have hq : ((z : Int) != (x : Int)) = true := by rw [bne_iff_ne]; omega
        have HFin : Hid (∀ k, Q (.returned (.int .i64 14)) (wa.drewN k)) := fun k => by
          show Q _ _
          rw [HQ.out, sure_14 _ _ _ _ _ _ HB.out HAB.out HF.out (by rw [← HZ.out, HXL.out]; exact hzx)]
          exact ⟨rfl, V, HJ.out.new (below_drewN (Below.refl _ _) k), HTO.out.trans (JTo.new (below_drewN (Below.refl _ _) k))⟩
        clear hzx
        go_wp2_with fail
        refine HW.out.mono ?_
        rintro R w' ⟨rfl, rfl⟩
        go_wp2_with fail
        refine HLa.out.mono ?_
        rintro R w' ⟨rfl, rfl⟩
        go_wp2_with fail
        refine HLb.out.mono ?_
        rintro R w' ⟨rfl, rfl⟩
        go_upto_region 7 with fail
        go_quiet (fail)
        go_wp2
        exact HFin.out _
      case pos =>
        have hq : ((z : Int) != (x : Int)) = false := by rw [hzx]; simp
        have HGO := Lib.hid (sure_go q p j f a b HB.out HAB.out HF.out (fun h => h (by rw [← HZ.out, HXL.out]; exact hzx)))
        have lp : ∀ k, (ldT 40 (.pointer (some ⟨w.heap.size, 0, none⟩))).run Tryz.prog (wa.drewN k) = .ok (.agg #[.int .u8 (a : Int), .int .u8 (b : Int)]) (wa.drewN k) := fun k => run_ldA ty_pair (w := wa.drewN k) HBX.out 0 (Nat.le_of_ble_eq_true rfl)
        clear hzx
        go_wp2_with fail
        refine HW.out.mono ?_
        rintro R w' ⟨rfl, rfl⟩
        go_wp2_with fail
        refine HLa.out.mono ?_
        rintro R w' ⟨rfl, rfl⟩
        go_wp2_with fail
        refine HLb.out.mono ?_
        rintro R w' ⟨rfl, rfl⟩
        go_upto_region 7 with fail
        go_quiet (fail)
        go_wp2_with fail
        refine (sureRec_c f a b _).mono ?_
        rintro R w3 ⟨rfl, hb3⟩
        have hb3' := (below_drewN (Below.refl wa.heap.size wa) _).trans hb3
        have HJ3 := Lib.hid (HJ.out.new hb3')
        have HT3 := Lib.hid (tab_below HT.out hb3')
        have HTO3 := Lib.hid (HTO.out.trans (JTo.new (V := V) hb3'))
        clear hb3 hb3' l2 l3 lx l4 hl5 hl6 lp l0 l1
        go_wp2_with fail
        refine (jwrite_c (rS f a b) w3 HJ3.out (rS_fits HFI.out HAB.out.1 HAB.out.2) HN.out HAP.out HT3.out).mono ?_
        rintro R w4 ⟨rfl, V4, hj4, ht4⟩
        have HTO4 := Lib.hid (HTO3.out.trans ht4)
        generalize wrE' q p j (rS f a b) = e at *
        clear ht4 HTO3 HJ3 HT3
        have HJ4 := Lib.hid hj4
        clear hj4
        by_cases he : e = 0
        · have hq : (e != 0) = false := by rw [he]; rfl
          subst he
          obtain ⟨S4, ao4, ac4, so4, sc4, co4, cc4, hx4⟩ := HJ4.out
          obtain ⟨b4, k4, hao4⟩ := hx4.jn.ins.ptr (show j.ah ≠ [] from HNE.out)
          subst hao4
          have HX4 := Lib.hid hx4
          clear hx4
          go_wp2_with fail
          refine (tconfirm_c gj 2 j.c j.ah.length ac4 b4 k4 69 (jcs gp (j.wrote 0) (some ⟨b4, k4, none⟩) ac4 so4 sc4 co4 cc4) w4 HX4.out.jn.blk rfl rfl (List.length_pos_iff.2 HNE.out) HX4.out.jn.cap.1 HX4.out.jn.cap.2 (by have h1 : j.c + j.ah.length < 18446744073709551616 := HX4.out.jn.fit.o; have := List.length_pos_iff.2 HNE.out; omega)).mono ?_
          rintro R w5 hp5
          obtain ⟨rfl, V5, hj5, ht5⟩ := HX4.out.sures hp5 HNE.out
          have HFin : Hid (Q (.returned (.int .i64 0)) w5) := by
            show Q _ _
            rw [HQ.out, HGO.out, if_pos trivial]
            exact ⟨rfl, V5, hj5, HTO4.out.trans ht5⟩
          clear hp5 hj5 ht5
          go_wp2
          exact HFin.out
        · have hq : (e != 0) = true := by rw [bne_iff_ne]; exact he
          have HFin : Hid (Q (.returned (.int .i64 e)) w4) := by
            show Q _ _
            rw [HQ.out, HGO.out, if_neg he]
            exact ⟨rfl, V4, HJ4.out, HTO4.out⟩
          clear he
          go_wp2
          exact HFin.out
    · obtain ⟨z, hz⟩ : ∃ z, z = sid j.m.pl (a, b) := ⟨_, rfl⟩
      have hl5 : ∀ k, (ldT 38 (.pointer (some ⟨w.heap.size, 1, none⟩))).run Tryz.prog (wa.drewN k) = .ok (.int .u8 (z : Int)) (wa.drewN k) := fun k => by
        have h1 : z = b := by rw [hz, hp]; rfl
        rw [h1]; exact l51 k
      have hl6 : ∀ k, (ldT 5 (.pointer (some ⟨gj, 7, none⟩))).run Tryz.prog (wa.drewN k) = .ok (.int .u8 1) (wa.drewN k) := fun k => by
        have h1 : (j.m.pl : Int) = 1 := by rw [hp]; rfl
        rw [← h1]; exact l6 k
      have HZ := Lib.hid hz
      clear hz l50 l51 l6 hp
      by_cases hzx : z = x
      case neg =>
        have hq : ((z : Int) != (x : Int)) = true := by rw [bne_iff_ne]; omega
        have HFin : Hid (∀ k, Q (.returned (.int .i64 14)) (wa.drewN k)) := fun k => by
          show Q _ _
          rw [HQ.out, sure_14 _ _ _ _ _ _ HB.out HAB.out HF.out (by rw [← HZ.out, HXL.out]; exact hzx)]
          exact ⟨rfl, V, HJ.out.new (below_drewN (Below.refl _ _) k), HTO.out.trans (JTo.new (below_drewN (Below.refl _ _) k))⟩
        clear hzx
        go_wp2_with fail
        refine HW.out.mono ?_
        rintro R w' ⟨rfl, rfl⟩
        go_wp2_with fail
        refine HLa.out.mono ?_
        rintro R w' ⟨rfl, rfl⟩
        go_wp2_with fail
        refine HLb.out.mono ?_
        rintro R w' ⟨rfl, rfl⟩
        go_upto_region 7 with fail
        go_quiet (fail)
        go_wp2
        exact HFin.out _
      case pos =>
        have hq : ((z : Int) != (x : Int)) = false := by rw [hzx]; simp
        have HGO := Lib.hid (sure_go q p j f a b HB.out HAB.out HF.out (fun h => h (by rw [← HZ.out, HXL.out]; exact hzx)))
        have lp : ∀ k, (ldT 40 (.pointer (some ⟨w.heap.size, 0, none⟩))).run Tryz.prog (wa.drewN k) = .ok (.agg #[.int .u8 (a : Int), .int .u8 (b : Int)]) (wa.drewN k) := fun k => run_ldA ty_pair (w := wa.drewN k) HBX.out 0 (Nat.le_of_ble_eq_true rfl)
        clear hzx
        go_wp2_with fail
        refine HW.out.mono ?_
        rintro R w' ⟨rfl, rfl⟩
        go_wp2_with fail
        refine HLa.out.mono ?_
        rintro R w' ⟨rfl, rfl⟩
        go_wp2_with fail
        refine HLb.out.mono ?_
        rintro R w' ⟨rfl, rfl⟩
        go_upto_region 7 with fail
        go_quiet (fail)
        go_wp2_with fail
        refine (sureRec_c f a b _).mono ?_
        rintro R w3 ⟨rfl, hb3⟩
        have hb3' := (below_drewN (Below.refl wa.heap.size wa) _).trans hb3
        have HJ3 := Lib.hid (HJ.out.new hb3')
        have HT3 := Lib.hid (tab_below HT.out hb3')
        have HTO3 := Lib.hid (HTO.out.trans (JTo.new (V := V) hb3'))
        clear hb3 hb3' l2 l3 lx l4 hl5 hl6 lp l0 l1
        go_wp2_with fail
        refine (jwrite_c (rS f a b) w3 HJ3.out (rS_fits HFI.out HAB.out.1 HAB.out.2) HN.out HAP.out HT3.out).mono ?_
        rintro R w4 ⟨rfl, V4, hj4, ht4⟩
        have HTO4 := Lib.hid (HTO3.out.trans ht4)
        generalize wrE' q p j (rS f a b) = e at *
        clear ht4 HTO3 HJ3 HT3
        have HJ4 := Lib.hid hj4
        clear hj4
        by_cases he : e = 0
        · have hq : (e != 0) = false := by rw [he]; rfl
          subst he
          obtain ⟨S4, ao4, ac4, so4, sc4, co4, cc4, hx4⟩ := HJ4.out
          obtain ⟨b4, k4, hao4⟩ := hx4.jn.ins.ptr (show j.ah ≠ [] from HNE.out)
          subst hao4
          have HX4 := Lib.hid hx4
          clear hx4
          go_wp2_with fail
          refine (tconfirm_c gj 2 j.c j.ah.length ac4 b4 k4 69 (jcs gp (j.wrote 0) (some ⟨b4, k4, none⟩) ac4 so4 sc4 co4 cc4) w4 HX4.out.jn.blk rfl rfl (List.length_pos_iff.2 HNE.out) HX4.out.jn.cap.1 HX4.out.jn.cap.2 (by have h1 : j.c + j.ah.length < 18446744073709551616 := HX4.out.jn.fit.o; have := List.length_pos_iff.2 HNE.out; omega)).mono ?_
          rintro R w5 hp5
          obtain ⟨rfl, V5, hj5, ht5⟩ := HX4.out.sures hp5 HNE.out
          have HFin : Hid (Q (.returned (.int .i64 0)) w5) := by
            show Q _ _
            rw [HQ.out, HGO.out, if_pos trivial]
            exact ⟨rfl, V5, hj5, HTO4.out.trans ht5⟩
          clear hp5 hj5 ht5
          go_wp2
          exact HFin.out
        · have hq : (e != 0) = true := by rw [bne_iff_ne]; exact he
          have HFin : Hid (Q (.returned (.int .i64 e)) w4) := by
            show Q _ _
            rw [HQ.out, HGO.out, if_neg he]
            exact ⟨rfl, V4, HJ4.out, HTO4.out⟩
          clear he
          go_wp2
          exact HFin.out
end
end Go.Proofs.YtgeaacabpnepmaaGreatDoor
