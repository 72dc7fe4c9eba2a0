/- The document's Take and Scan of a segment: their contracts. Conditions: texts of 2^20 bytes at most. -/
import Derived.Test.YthnelnfefllhpaaDoorBi
namespace Go.Proofs.YthnelnfefllhpaaDoor
open Go.RowKit
set_option linter.unusedVariables false
set_option linter.unusedSimpArgs false
set_option maxRecDepth 20000

theorem said_c {g n : Nat} {x : Sg} {ao : Option Addr} {cap : Nat} {r : Rc} {w : World} (h : DtC w g n x ao cap) (hf : r.fit) (hm : mayB r = true) (hfw : x.l.length < 1000000) :
    Calls Tryd.prog 21 #[.pointer (some ⟨g, 0, none⟩), .agg (rcs r), .int .u64 (n : Int)] w fun E w' => E = .returned (.int .i64 (tkS n x r)) ∧ (∃ ao' cap', DtC w' g n (if tkS n x r = 0 then adS x r else x) ao' cap') ∧ Below g w w' := by
  have hgl := h.blk.lt
  have bad : ∀ {e : Int}, tkS n x r = e → e ≠ 0 → (∀ E w', (E = .returned (.int .i64 e) ∧ Below w.heap.size w w') → (E = Ending.returned (.int .i64 (tkS n x r)) ∧ (∃ ao' cap', DtC w' g n (if tkS n x r = 0 then adS x r else x) ao' cap') ∧ Below g w w')) := by
    rintro e he h0 E w' ⟨rfl, hb⟩
    rw [he, if_neg h0]
    exact ⟨rfl, ⟨ao, cap, h.to hb⟩, hb.mono (Nat.le_of_lt hgl)⟩
  by_cases hxb : x.b = true
  · obtain ⟨hk3, hy2, hs, _⟩ := h.okg.hb hxb
    by_cases k3 : r.k = 3
    · have ht : tkS n x r = 11 := by unfold tkS; rw [if_pos k3, if_pos (.inl hxb)]
      exact (dtk_twice h hf k3 hxb).mono fun E w' he => bad ht (by decide) E w' he
    · by_cases k1 : r.k = 1
      · by_cases hc : r.f ≠ x.o ∨ 12 ≤ x.o - x.c ∨ r.f = 18446744073709551615
        · have ht : tkS n x r = 11 := by unfold tkS; rw [if_neg k3, if_neg (by rw [hxb]; decide), if_pos k1, if_pos hc]
          by_cases c1 : r.f = x.o
          · by_cases c2 : 12 ≤ x.o - x.c
            · exact (dtk_own2 h hf k1 hxb c1 c2).mono fun E w' he => bad ht (by decide) E w' he
            · exact (dtk_own3 h hf k1 hxb c1 (by omega) (by omega)).mono fun E w' he => bad ht (by decide) E w' he
          · exact (dtk_own1 h hf k1 hxb c1).mono fun E w' he => bad ht (by decide) E w' he
        · have ht : tkS n x r = 0 := by unfold tkS; rw [if_neg k3, if_neg (by rw [hxb]; decide), if_pos k1, if_neg hc]
          have ha : adS x r = ⟨x.b, x.h, x.l ++ [r], x.c, x.o + 1⟩ := by unfold adS; rw [if_neg k3, if_pos k1]
          have hg := okg_ad h.okg hf hm ht
          refine (dtk_own h hf k1 hxb (by omega) (by omega) (by omega) hfw).mono fun E w' ⟨he, a', c', hc', hr', hb⟩ => ?_
          rw [ht, if_pos rfl]
          rw [ha] at hg ⊢
          exact ⟨he, ⟨a', c', hc', hr', hg, by show (x.l ++ [r]).length ≤ _; simp; omega⟩, hb⟩
      · have k2 : r.k = 2 := by have := may_k hm; omega
        by_cases hc : r.f ≠ x.c ∨ x.o ≤ x.c
        · have ht : tkS n x r = 11 := by unfold tkS; rw [if_neg k3, if_neg (by rw [hxb]; decide), if_neg k1, if_pos hc]
          by_cases c1 : r.f = x.c
          · exact (dtk_sure2 h hf k2 hxb c1 (by omega)).mono fun E w' he => bad ht (by decide) E w' he
          · exact (dtk_sure1 h hf k2 hxb c1).mono fun E w' he => bad ht (by decide) E w' he
        · have hy : x.h.y = 0 ∨ x.h.y = 1 := by omega
          have ha : adS x r = ⟨x.b, x.h, x.l ++ [r], x.c + 1, x.o⟩ := by unfold adS; rw [if_neg k3, if_neg k1]
          by_cases hs : side r x.h.y = inp x.l r.f
          · have ht : tkS n x r = 0 := by unfold tkS; rw [if_neg k3, if_neg (by rw [hxb]; decide), if_neg k1, if_neg hc, if_neg (fun h => h hs)]
            have hg := okg_ad h.okg hf hm ht
            have fin : ∀ E w', (E = Ending.returned (.int .i64 0) ∧ ∃ a' c', Cells w' g 61 (dcs ⟨x.b, x.h, x.l ++ [r], (x.c + 1), x.o⟩ a' c') ∧ w'.ownsRow (g + 1) 33 9 (.slice a' (x.l ++ [r]).length c') (x.l ++ [r]).length (Rall (x.l ++ [r])) ∧ Below g w w') →
                (E = Ending.returned (.int .i64 (tkS n x r)) ∧ (∃ ao' cap', DtC w' g n (if tkS n x r = 0 then adS x r else x) ao' cap') ∧ Below g w w') := by
              rintro E w' ⟨he, a', c', hc', hr', hb⟩
              rw [ht, if_pos rfl]
              rw [ha] at hg ⊢
              exact ⟨he, ⟨a', c', hc', hr', hg, by show (x.l ++ [r]).length ≤ _; simp; omega⟩, hb⟩
            rcases hy with hy | hy
            · exact (dtk_sure_0 h hf k2 hxb (by omega) (by omega) hy (by rw [← hs, hy]; rfl) hfw).mono fin
            · exact (dtk_sure_1 h hf k2 hxb (by omega) (by omega) hy (by rw [← hs, hy]; rfl) hfw).mono fin
          · have ht : tkS n x r = 14 := by unfold tkS; rw [if_neg k3, if_neg (by rw [hxb]; decide), if_neg k1, if_neg hc, if_pos hs]
            rcases hy with hy | hy
            · exact (dtk_clash_0 h hf k2 hxb (by omega) (by omega) hy (by rw [hy] at hs; exact hs) hfw).mono fun E w' he => bad ht (by decide) E w' he
            · exact (dtk_clash_1 h hf k2 hxb (by omega) (by omega) hy (by rw [hy] at hs; exact hs) hfw).mono fun E w' he => bad ht (by decide) E w' he
  · have hxb' : x.b = false := by cases hx : x.b <;> simp_all
    by_cases k3 : r.k = 3
    · by_cases hs : r.s = n
      · have ht : tkS n x r = 0 := by unfold tkS; rw [if_pos k3, if_neg (by rintro (h | h); exact hxb h; exact h hs)]
        have ha : adS x r = ⟨true, r, x.l, r.i, r.i⟩ := by unfold adS; rw [if_pos k3]
        have hg := okg_ad h.okg hf hm ht
        refine (dtk_head h hf k3 hxb' hs).mono fun E w' ⟨he, hc', htu⟩ => ?_
        rw [ht, if_pos rfl]
        rw [ha] at hg ⊢
        exact ⟨he, ⟨_, _, hc', row_tu h.row htu fun y hy e => by have := (h.row.lt y hy).1; omega, hg, h.few⟩, htu.below (fun y hy e => by omega) (Nat.le_of_lt hgl)⟩
      · have ht : tkS n x r = 11 := by unfold tkS; rw [if_pos k3, if_pos (.inr hs)]
        exact (dtk_other h hf k3 hxb' hs).mono fun E w' he => bad ht (by decide) E w' he
    · have ht : tkS n x r = 11 := by unfold tkS; rw [if_neg k3, if_pos hxb']
      exact (dtk_none h hf k3 hxb').mono fun E w' he => bad ht (by decide) E w' he
/-- What the document's Scan answers. -/
theorem dscan_fin {w w8 : World} {g n a : Nat} {x : Sg} {ao : Option Addr} {cap : Nat} {e : Int} {R : Sc} {Q : Ending → World → Prop} (hQ : Q = ScanPost w R) (hR : R = ⟨x, a, e⟩) (h : DtC w8 g n x ao cap) (hb : Below w.heap.size w w8) (hg : w.heap.size ≤ g) :
    Q (.returned (.tuple #[.agg (rcs x.h), .slice ao x.l.length cap, .int .i64 a, .int .i64 e])) w8 := by
  subst hQ hR
  obtain ⟨h1, h2, h3, h4, h5⟩ := h.rcr.told
  exact ⟨ao, cap, rfl, h1, fun y hy => ⟨by have := (h2 y hy).1; omega, (h2 y hy).2⟩, h3, h4, h5, hb⟩
attribute [local go_sem ↓] ld_dec st_dec ld_drecs st_drecs ld_bool st_said
set_option maxHeartbeats 4000000 in
theorem dscan_c (s : List UInt8) (n : Nat) (w : World) (hs : s.length ≤ 1048576) (hn : n < 18446744073709551616) :
    Calls Tryd.prog 8 #[.string (str s), .int .u64 (n : Int)] w (ScanPost w (scn n sg0 0 s)) := by
  have hsz := str_size s
  have HS := Lib.hid hs
  have H0 := Lib.hid (Loc.one w 33 #[.int .i64 0, .int .u64 0, .int .u8 0, .int .u8 0, .int .u8 0, .int .u64 0, .int .u64 0, .int .u64 0, .int .u8 0])
  obtain ⟨R, hR⟩ : ∃ R, R = scn n sg0 0 s := ⟨_, rfl⟩
  rw [← hR]
  have HR := Lib.hid hR
  obtain ⟨Q, hQ⟩ : ∃ Q : Ending → World → Prop, Q = ScanPost w R := ⟨_, rfl⟩
  rw [← hQ]
  have HQ := Lib.hid hQ
  clear hs hR hQ
  go_enter Tryd.func8, Tryd.ntmps8
  go_upto_region 1 with fail
  generalize w.alloc (.cells #[.int .i64 0, .int .u64 0, .int .u8 0, .int .u8 0, .int .u8 0, .int .u64 0, .int .u64 0, .int .u64 0, .int .u8 0] 33) = wa at *
  obtain ⟨g, hgz⟩ : ∃ g, wa.heap.size = g := ⟨_, rfl⟩
  have h1 := H0.out.more 61 (dcs sg0 none 0)
  rw [hgz] at h1
  go_upto_region 3 with fail
  have HG : Hid (w.heap.size < g) := by show _ < _; have := (H0.out.get 0 rfl).lt; omega
  have HL0 := Lib.hid (show Loc w.heap.size w _ [(w.heap.size, 33, #[.int .i64 0, .int .u64 0, .int .u8 0, .int .u8 0, .int .u8 0, .int .u64 0, .int .u64 0, .int .u64 0, .int .u8 0])] from h1.drop 1 rfl)
  have HC0 : Hid (DtC _ g n sg0 none 0) := ⟨h1.get 1 rfl, World.ownsRow_nil _ _ _ _, okg0 n, Nat.zero_le _⟩
  clear h1 H0 hgz
  go_loopw [9] (fun gd wr => ∃ (x : Sg) (ao : Option Addr) (cap a : Nat), gd = .int .i64 (a : Int) ∧ a ≤ s.length ∧ (x.b = true ↔ 0 < a) ∧ Hid (scn n x a (s.drop a) = R) ∧ Hid (DtC wr g n x ao cap) ∧ Hid (Loc w.heap.size w wr [(w.heap.size, 33, #[.int .i64 0, .int .u64 0, .int .u8 0, .int .u8 0, .int .u8 0, .int .u64 0, .int .u64 0, .int .u64 0, .int .u8 0])]) ∧ Hid (x.l.length * 6 ≤ a + 6)) (fun gd _ => s.length - (intOf gd).toNat)
  case atStart => exact ⟨sg0, none, 0, 0, rfl, Nat.zero_le _, by simp [sg0], HR.out.symm, HC0, HL0, Nat.zero_le _⟩
  case round =>
    obtain ⟨x, ao, cap, a, rfl, ha, hxa, HSC, HC, HL, hfew⟩ := hrel
    clear HC0 HL0 HR
    have hgo : (a < s.length) ∨ (¬ a < s.length ∧ a = 0) ∨ (a ≠ 0 ∧ ¬ a < s.length) := by omega
    rcases hgo with hgo | hgo | hgo
    · have g2 : (a : Int) < (s.length : Int) := by omega
      have hnp : Hid (¬ (s.drop a = [] ∧ x.b = true)) := sg_pos hxa (by omega) ha
      have hd := str_rest s a
      have hdl := Lib.hid (List.length_drop (i := a) (l := s))
      have hal := Lib.hid ha
      obtain ⟨d, hdd⟩ : ∃ d, d = s.drop a := ⟨_, rfl⟩
      rw [← hdd] at hnp hd hdl HSC
      have HDD := Lib.hid hdd
      clear hdd hgo
      have HNX : Hid (∀ w, Calls Tryd.prog 19 #[.string (str d)] w fun E w' => E = .returned (.tuple #[.string (str (fp d)), .int .i64 (fu d), .int .i64 (fe d)]) ∧ w.grownBy w' none) := fun w => refNext d w (by have := hdl.out; have := HS.out; omega)
      go_wp2_with fail
      refine (HNX.out _).mono ?_
      rintro E w1 ⟨rfl, hb1⟩
      have HC1 := Lib.hid (HC.out.to (below_of_grown hb1))
      have HL1 := Lib.hid (HL.out.to (below_of_grown hb1))
      clear hb1 HC HL HNX g2
      have HSN := Lib.hid (scn_nx (n := n) (a := a) (x := x) hnp.out)
      have hok := Lib.hid (nx_ok (s := d))
      have hpl := Lib.hid (fp_len d)
      by_cases he : fe d = 0
      · obtain ⟨e1, e2⟩ := nx_yes he
        rw [e1, e2] at HSN hok
        obtain ⟨e, he3⟩ : ∃ e, e = (tkR (fp d)).1 := ⟨_, rfl⟩
        obtain ⟨r, hr⟩ : ∃ r, r = (tkR (fp d)).2 := ⟨_, rfl⟩
        rw [← he3, ← hr] at HSN hok
        have HTK : Hid (∀ w, Calls Tryd.prog 20 #[.string (str (fp d))] w fun E w' => E = .returned (.tuple #[.agg (rcs r), .int .i64 e]) ∧ Below w.heap.size w w') := fun w => by rw [he3, hr]; exact dtake_c (fp d) w (by have := hpl.out; omega)
        clear e1 e2 he3 hr hpl
        rw [he]
        clear he
        generalize fp d = p at *
        generalize fu d = u at *
        go_wp2_with fail
        refine (HTK.out _).mono ?_
        rintro E w1b ⟨rfl, hb2⟩
        have HC1b := Lib.hid (HC1.out.to hb2)
        have HL1b := Lib.hid (HL1.out.to hb2)
        clear hb2 HC1 HL1 HTK
        obtain ⟨g9, w2, z9, s9, h9, q9⟩ := HL1b.out.newA ty_dec #[.int .i64 0, .int .u64 0, .int .u8 0, .int .u8 0, .int .u8 0, .int .u64 0, .int .u64 0, .int .u64 0, .int .u8 0] (rcs r) rfl rfl (List.all_eq_true.2 (rcs_one r))
        have HC2 := Lib.hid (HC1b.out.to (below_of_grown q9))
        have H9 := Lib.hid h9
        clear h9 q9
        by_cases he : e = 0
        · subst he
          obtain ⟨rf, rm, u6, ul⟩ := hok.out rfl
          have hu6 := Lib.hid u6
          have hul := Lib.hid ul
          have HA := Lib.hid (said_c HC2.out rf rm (by have := hfew.out; have := hal.out; have := HS.out; omega))
          clear rf rm hok u6 ul
          go_upto_region 10 with fail
          clear s9 z9
          have l9 := H9.out.ldA ty_dec 1 rfl 0 (vs := rcs r) (by simp [rcs]) (Nat.le_of_ble_eq_true rfl)
          obtain ⟨c, hc⟩ : ∃ c, c = tkS n x r := ⟨_, rfl⟩
          rw [← hc] at HA HSN
          have HCC := Lib.hid hc
          clear hc
          go_wp2_with fail
          refine HA.out.mono ?_
          rintro E w3 ⟨rfl, hct, hb3⟩
          have HL3 := Lib.hid ((show Loc w.heap.size w w2 [(w.heap.size, 33, #[.int .i64 0, .int .u64 0, .int .u8 0, .int .u8 0, .int .u8 0, .int .u64 0, .int .u64 0, .int .u64 0, .int .u8 0])] from H9.out.drop 1 rfl).upto hb3 (Nat.le_of_lt HG.out) (by intro q hq; simp only [List.mem_singleton] at hq; subst hq; exact HG.out))
          clear hb3 l9 HA H9 HC1b HC2 HL1b
          by_cases hc0 : c = 0
          · subst hc0
            rw [if_pos rfl] at hct
            obtain ⟨ao', cap', hct⟩ := hct
            have HC3 := Lib.hid hct
            have hau : Hid ((a : Int) + (u : Int) ≤ (s.length : Int)) := by show _ ≤ _; have := hul.out; have := hdl.out; have := hal.out; omega
            have hau2 := hau.out
            have hsz2 := HS.out
            clear hct
            go_wp2
            go_roundw
            case rel =>
              refine ⟨adS x r, ao', cap', a + u, by go_num, by have := hau.out; omega, ⟨fun _ => by have := hu6.out; omega, fun _ => adS_b HCC.out.symm⟩, ?_, HC3, HL3, ?_⟩
              · show scn n (adS x r) (a + u) (s.drop (a + u)) = R
                rw [← HSC.out, HSN.out]
                simp only [if_true]
                rw [HDD.out, List.drop_drop]
              · show (adS x r).l.length * 6 ≤ a + u + 6
                have h1 := hfew.out
                have h2 := hu6.out
                unfold adS
                (repeat' split) <;> simp <;> omega
            case measure => have := hu6.out; have := hau.out; simp [intOf]; omega
          · rw [if_neg hc0] at hct
            obtain ⟨ao', cap', hct⟩ := hct
            have HL := HL3
            have HE : Hid (R = ⟨x, a, c⟩) := by show _ = _; rw [← HSC.out, HSN.out]; simp only [if_true, if_neg hc0]
            have g3 : (c == 0) = false := beq_eq_false_iff_ne.2 hc0
            have g4 : (c != 0) = true := bne_iff_ne.2 hc0
            have HCx := Lib.hid hct
            clear hct HL3 hc0 HSN hfew
            obtain ⟨ao, cap, HC⟩ : ∃ ao cap, Hid (DtC w3 g n x ao cap) := ⟨ao', cap', HCx⟩
            go_upto_region 12 with fail
            have a1 := fun W (hW : Cells W g 61 (dcs x ao cap)) => run_ldA ty_dec hW 0 (by rw [dcs_size]; omega)
            have a2 := fun W (hW : Cells W g 61 (dcs x ao cap)) => run_ldO ty_drecs hW 10 (dcs10 x ao cap)
            have e0 := dcs_head x ao cap
            simp only [e0] at a1
            clear e0
            have HD := Lib.hid (HC.out.to (Below.refl _ w3).drew)
            have LD := Lib.hid HL.out.drew
            have o0 := HD.out.blk
            refine wp_region_till (S := fun W => Cells W g 61 (dcs x ao cap)) (by kernel_rfl) ?_
            refine wpTill_take (i := 0) (v := ?vr10) rfl (by kernel_rfl) (fun _ _ _ h => h) (Or.inl ⟨by rfl, ?hyr10⟩) o0 ?restr10
            case hyr10 => (intro W hW; (try dsimp only at hW); go_simp; try with_reducible rfl)
            simp only [Act.put, List.setIfInBounds_toArray, List.set_cons_zero, List.set_cons_succ, List.getElem_toArray, List.getElem_cons_succ, List.getElem_cons_zero]
            refine wpTill_take (i := 1) (v := ?vr11) rfl (by kernel_rfl) (fun _ _ _ h => h) (Or.inl ⟨by rfl, ?hyr11⟩) o0 ?restr11
            case hyr11 => (intro W hW; (try dsimp only at hW); go_simp; try with_reducible rfl)
            simp only [Act.put, List.setIfInBounds_toArray, List.set_cons_zero, List.set_cons_succ, List.getElem_toArray, List.getElem_cons_succ, List.getElem_cons_zero]
            refine wpTill_take (i := 2) (v := ?vr12) rfl (by kernel_rfl) (fun _ _ _ h => h) (Or.inl ⟨by rfl, ?hyr12⟩) o0 ?restr12
            case hyr12 => (intro W hW; (try dsimp only at hW); go_simp; try with_reducible rfl)
            simp only [Act.put, List.setIfInBounds_toArray, List.set_cons_zero, List.set_cons_succ, List.getElem_toArray, List.getElem_cons_succ, List.getElem_cons_zero]
            refine wpTill_take (i := 3) (v := ?vr13) rfl (by kernel_rfl) (fun _ _ _ h => h) (Or.inl ⟨by rfl, ?hyr13⟩) o0 ?restr13
            case hyr13 => (intro W hW; (try dsimp only at hW); go_simp; try with_reducible rfl)
            simp only [Act.put, List.setIfInBounds_toArray, List.set_cons_zero, List.set_cons_succ, List.getElem_toArray, List.getElem_cons_succ, List.getElem_cons_zero]
            refine wpTill_take (i := 4) (v := ?vr14) rfl (by kernel_rfl) (fun _ _ _ h => h) (Or.inl ⟨by rfl, ?hyr14⟩) o0 ?restr14
            case hyr14 => (intro W hW; (try dsimp only at hW); go_simp; try with_reducible rfl)
            simp only [Act.put, List.setIfInBounds_toArray, List.set_cons_zero, List.set_cons_succ, List.getElem_toArray, List.getElem_cons_succ, List.getElem_cons_zero]
            refine wpTill_take (i := 5) (v := ?vr15) rfl (by kernel_rfl) (fun _ _ _ h => h) (Or.inl ⟨by rfl, ?hyr15⟩) o0 ?restr15
            case hyr15 => (intro W hW; (try dsimp only at hW); go_simp; try with_reducible rfl)
            simp only [Act.put, List.setIfInBounds_toArray, List.set_cons_zero, List.set_cons_succ, List.getElem_toArray, List.getElem_cons_succ, List.getElem_cons_zero]
            refine wpTill_take (i := 6) (v := ?vr16) rfl (by kernel_rfl) (fun _ _ _ h => h) (Or.inl ⟨by rfl, ?hyr16⟩) o0 ?restr16
            case hyr16 => (intro W hW; (try dsimp only at hW); go_simp; try with_reducible rfl)
            simp only [Act.put, List.setIfInBounds_toArray, List.set_cons_zero, List.set_cons_succ, List.getElem_toArray, List.getElem_cons_succ, List.getElem_cons_zero]
            refine wpTill_take (i := 7) (v := ?vr17) rfl (by kernel_rfl) (fun _ _ _ h => h) (Or.inl ⟨by rfl, ?hyr17⟩) o0 ?restr17
            case hyr17 => (intro W hW; (try dsimp only at hW); go_simp; try with_reducible rfl)
            simp only [Act.put, List.setIfInBounds_toArray, List.set_cons_zero, List.set_cons_succ, List.getElem_toArray, List.getElem_cons_succ, List.getElem_cons_zero]
            refine wpTill_take (i := 8) (v := ?vr18) rfl (by kernel_rfl) (fun _ _ _ h => h) (Or.inl ⟨by rfl, ?hyr18⟩) o0 ?restr18
            case hyr18 => (intro W hW; (try dsimp only at hW); go_simp; try with_reducible rfl)
            simp only [Act.put, List.setIfInBounds_toArray, List.set_cons_zero, List.set_cons_succ, List.getElem_toArray, List.getElem_cons_succ, List.getElem_cons_zero]
            refine wpTill_take (i := 9) (v := ?vr19) rfl (by kernel_rfl) (fun _ _ _ h => h) (Or.inl ⟨by rfl, ?hyr19⟩) o0 ?restr19
            case hyr19 => (intro W hW; (try dsimp only at hW); go_simp; try with_reducible rfl)
            simp only [Act.put, List.setIfInBounds_toArray, List.set_cons_zero, List.set_cons_succ, List.getElem_toArray, List.getElem_cons_succ, List.getElem_cons_zero]
            refine wpTill_run (i := 10) (by kernel_rfl) rfl o0 (fun K hK => ?_)
            obtain ⟨w8, s8, h8, q8⟩ := LD.out.stA ty_dec 0 rfl 0 (rcs x.h) (cs' := rcs x.h) (by simp [rcs]) (L' := [(w.heap.size, 33, rcs x.h)]) rfl (Nat.le_of_ble_eq_true rfl) rfl (List.all_eq_true.2 (rcs_one x.h))
            go_simp
            have HC8 := Lib.hid (HD.out.same q8 HG.out)
            have o8 := HC8.out.blk
            have L8 := Lib.hid h8
            clear h8 q8
            refine hK _ _ ?_
            clear hK K
            refine wpTill_run (i := 11) (by kernel_rfl) rfl o8 (fun K hK => ?_)
            go_simp
            refine hK _ _ ?_
            clear hK K
            refine wpTill_run (i := 12) (by kernel_rfl) rfl o8 (fun K hK => ?_)
            go_simp
            refine hK _ _ ?_
            clear hK K
            refine wpTill_run (i := 13) (by kernel_rfl) rfl o8 (fun K hK => ?_)
            go_simp
            refine hK _ _ ?_
            clear hK K
            refine wpTill_done (by kernel_rfl) ?_
            clear a1 a2 o0 o8 s8
            go_wp2
            refine bodyPost_ret (shut_4 _ _ _ _ _ Tryd.results8 ty_dec (L8.out.get 0 rfl) rfl rfl rfl rfl rfl) rfl ?_
            exact dscan_fin HQ.out HE.out HC8.out L8.out.be (Nat.le_of_lt HG.out)
        · have HE : Hid (R = ⟨x, a, e⟩) := by show _ = _; rw [← HSC.out, HSN.out, if_neg he]
          have g3 : (e == 0) = false := beq_eq_false_iff_ne.2 he
          have g4 : (e != 0) = true := bne_iff_ne.2 he
          have HC := HC2
          have HL := Lib.hid (show Loc w.heap.size w w2 [(w.heap.size, 33, #[.int .i64 0, .int .u64 0, .int .u8 0, .int .u8 0, .int .u8 0, .int .u64 0, .int .u64 0, .int .u64 0, .int .u8 0])] from H9.out.drop 1 rfl)
          clear HSN he hok HC1b HL1b HC2
          go_upto_region 9 with fail
          have a1 := fun W (hW : Cells W g 61 (dcs x ao cap)) => run_ldA ty_dec hW 0 (by rw [dcs_size]; omega)
          have a2 := fun W (hW : Cells W g 61 (dcs x ao cap)) => run_ldO ty_drecs hW 10 (dcs10 x ao cap)
          have e0 := dcs_head x ao cap
          simp only [e0] at a1
          clear e0
          have HD := Lib.hid (HC.out.to (Below.refl _ w2).drew)
          have LD := Lib.hid HL.out.drew
          have o0 := HD.out.blk
          refine wp_region_till (S := fun W => Cells W g 61 (dcs x ao cap)) (by kernel_rfl) ?_
          refine wpTill_take (i := 0) (v := ?vr20) rfl (by kernel_rfl) (fun _ _ _ h => h) (Or.inl ⟨by rfl, ?hyr20⟩) o0 ?restr20
          case hyr20 => (intro W hW; (try dsimp only at hW); go_simp; try with_reducible rfl)
          simp only [Act.put, List.setIfInBounds_toArray, List.set_cons_zero, List.set_cons_succ, List.getElem_toArray, List.getElem_cons_succ, List.getElem_cons_zero]
          refine wpTill_take (i := 1) (v := ?vr21) rfl (by kernel_rfl) (fun _ _ _ h => h) (Or.inl ⟨by rfl, ?hyr21⟩) o0 ?restr21
          case hyr21 => (intro W hW; (try dsimp only at hW); go_simp; try with_reducible rfl)
          simp only [Act.put, List.setIfInBounds_toArray, List.set_cons_zero, List.set_cons_succ, List.getElem_toArray, List.getElem_cons_succ, List.getElem_cons_zero]
          refine wpTill_take (i := 2) (v := ?vr22) rfl (by kernel_rfl) (fun _ _ _ h => h) (Or.inl ⟨by rfl, ?hyr22⟩) o0 ?restr22
          case hyr22 => (intro W hW; (try dsimp only at hW); go_simp; try with_reducible rfl)
          simp only [Act.put, List.setIfInBounds_toArray, List.set_cons_zero, List.set_cons_succ, List.getElem_toArray, List.getElem_cons_succ, List.getElem_cons_zero]
          refine wpTill_take (i := 3) (v := ?vr23) rfl (by kernel_rfl) (fun _ _ _ h => h) (Or.inl ⟨by rfl, ?hyr23⟩) o0 ?restr23
          case hyr23 => (intro W hW; (try dsimp only at hW); go_simp; try with_reducible rfl)
          simp only [Act.put, List.setIfInBounds_toArray, List.set_cons_zero, List.set_cons_succ, List.getElem_toArray, List.getElem_cons_succ, List.getElem_cons_zero]
          refine wpTill_take (i := 4) (v := ?vr24) rfl (by kernel_rfl) (fun _ _ _ h => h) (Or.inl ⟨by rfl, ?hyr24⟩) o0 ?restr24
          case hyr24 => (intro W hW; (try dsimp only at hW); go_simp; try with_reducible rfl)
          simp only [Act.put, List.setIfInBounds_toArray, List.set_cons_zero, List.set_cons_succ, List.getElem_toArray, List.getElem_cons_succ, List.getElem_cons_zero]
          refine wpTill_take (i := 5) (v := ?vr25) rfl (by kernel_rfl) (fun _ _ _ h => h) (Or.inl ⟨by rfl, ?hyr25⟩) o0 ?restr25
          case hyr25 => (intro W hW; (try dsimp only at hW); go_simp; try with_reducible rfl)
          simp only [Act.put, List.setIfInBounds_toArray, List.set_cons_zero, List.set_cons_succ, List.getElem_toArray, List.getElem_cons_succ, List.getElem_cons_zero]
          refine wpTill_take (i := 6) (v := ?vr26) rfl (by kernel_rfl) (fun _ _ _ h => h) (Or.inl ⟨by rfl, ?hyr26⟩) o0 ?restr26
          case hyr26 => (intro W hW; (try dsimp only at hW); go_simp; try with_reducible rfl)
          simp only [Act.put, List.setIfInBounds_toArray, List.set_cons_zero, List.set_cons_succ, List.getElem_toArray, List.getElem_cons_succ, List.getElem_cons_zero]
          refine wpTill_take (i := 7) (v := ?vr27) rfl (by kernel_rfl) (fun _ _ _ h => h) (Or.inl ⟨by rfl, ?hyr27⟩) o0 ?restr27
          case hyr27 => (intro W hW; (try dsimp only at hW); go_simp; try with_reducible rfl)
          simp only [Act.put, List.setIfInBounds_toArray, List.set_cons_zero, List.set_cons_succ, List.getElem_toArray, List.getElem_cons_succ, List.getElem_cons_zero]
          refine wpTill_take (i := 8) (v := ?vr28) rfl (by kernel_rfl) (fun _ _ _ h => h) (Or.inl ⟨by rfl, ?hyr28⟩) o0 ?restr28
          case hyr28 => (intro W hW; (try dsimp only at hW); go_simp; try with_reducible rfl)
          simp only [Act.put, List.setIfInBounds_toArray, List.set_cons_zero, List.set_cons_succ, List.getElem_toArray, List.getElem_cons_succ, List.getElem_cons_zero]
          refine wpTill_take (i := 9) (v := ?vr29) rfl (by kernel_rfl) (fun _ _ _ h => h) (Or.inl ⟨by rfl, ?hyr29⟩) o0 ?restr29
          case hyr29 => (intro W hW; (try dsimp only at hW); go_simp; try with_reducible rfl)
          simp only [Act.put, List.setIfInBounds_toArray, List.set_cons_zero, List.set_cons_succ, List.getElem_toArray, List.getElem_cons_succ, List.getElem_cons_zero]
          refine wpTill_run (i := 10) (by kernel_rfl) rfl o0 (fun K hK => ?_)
          obtain ⟨w8, s8, h8, q8⟩ := LD.out.stA ty_dec 0 rfl 0 (rcs x.h) (cs' := rcs x.h) (by simp [rcs]) (L' := [(w.heap.size, 33, rcs x.h)]) rfl (Nat.le_of_ble_eq_true rfl) rfl (List.all_eq_true.2 (rcs_one x.h))
          go_simp
          have HC8 := Lib.hid (HD.out.same q8 HG.out)
          have o8 := HC8.out.blk
          have L8 := Lib.hid h8
          clear h8 q8
          refine hK _ _ ?_
          clear hK K
          refine wpTill_run (i := 11) (by kernel_rfl) rfl o8 (fun K hK => ?_)
          go_simp
          refine hK _ _ ?_
          clear hK K
          refine wpTill_run (i := 12) (by kernel_rfl) rfl o8 (fun K hK => ?_)
          go_simp
          refine hK _ _ ?_
          clear hK K
          refine wpTill_run (i := 13) (by kernel_rfl) rfl o8 (fun K hK => ?_)
          go_simp
          refine hK _ _ ?_
          clear hK K
          refine wpTill_done (by kernel_rfl) ?_
          clear a1 a2 o0 o8 s8
          go_wp2
          refine bodyPost_ret (shut_4 _ _ _ _ _ Tryd.results8 ty_dec (L8.out.get 0 rfl) rfl rfl rfl rfl rfl) rfl ?_
          exact dscan_fin HQ.out HE.out HC8.out L8.out.be (Nat.le_of_lt HG.out)
      · obtain ⟨e1, _, _⟩ := nx_bad he
        rw [e1] at HSN
        have HE : Hid (R = ⟨x, a, fe d⟩) := by show _ = _; rw [← HSC.out, HSN.out, if_neg he]
        have g3 : (fe d == 0) = false := beq_eq_false_iff_ne.2 he
        have g4 : (fe d != 0) = true := bne_iff_ne.2 he
        have HC := HC1
        have HL := HL1
        clear HSN he hok HC1 HL1 e1 hpl
        generalize fe d = e at *
        go_upto_region 6 with fail
        have a1 := fun W (hW : Cells W g 61 (dcs x ao cap)) => run_ldA ty_dec hW 0 (by rw [dcs_size]; omega)
        have a2 := fun W (hW : Cells W g 61 (dcs x ao cap)) => run_ldO ty_drecs hW 10 (dcs10 x ao cap)
        have e0 := dcs_head x ao cap
        simp only [e0] at a1
        clear e0
        have HD := Lib.hid (HC.out.to (Below.refl _ w1).drew)
        have LD := Lib.hid HL.out.drew
        have o0 := HD.out.blk
        refine wp_region_till (S := fun W => Cells W g 61 (dcs x ao cap)) (by kernel_rfl) ?_
        refine wpTill_take (i := 0) (v := ?vr30) rfl (by kernel_rfl) (fun _ _ _ h => h) (Or.inl ⟨by rfl, ?hyr30⟩) o0 ?restr30
        case hyr30 => (intro W hW; (try dsimp only at hW); go_simp; try with_reducible rfl)
        simp only [Act.put, List.setIfInBounds_toArray, List.set_cons_zero, List.set_cons_succ, List.getElem_toArray, List.getElem_cons_succ, List.getElem_cons_zero]
        refine wpTill_take (i := 1) (v := ?vr31) rfl (by kernel_rfl) (fun _ _ _ h => h) (Or.inl ⟨by rfl, ?hyr31⟩) o0 ?restr31
        case hyr31 => (intro W hW; (try dsimp only at hW); go_simp; try with_reducible rfl)
        simp only [Act.put, List.setIfInBounds_toArray, List.set_cons_zero, List.set_cons_succ, List.getElem_toArray, List.getElem_cons_succ, List.getElem_cons_zero]
        refine wpTill_take (i := 2) (v := ?vr32) rfl (by kernel_rfl) (fun _ _ _ h => h) (Or.inl ⟨by rfl, ?hyr32⟩) o0 ?restr32
        case hyr32 => (intro W hW; (try dsimp only at hW); go_simp; try with_reducible rfl)
        simp only [Act.put, List.setIfInBounds_toArray, List.set_cons_zero, List.set_cons_succ, List.getElem_toArray, List.getElem_cons_succ, List.getElem_cons_zero]
        refine wpTill_take (i := 3) (v := ?vr33) rfl (by kernel_rfl) (fun _ _ _ h => h) (Or.inl ⟨by rfl, ?hyr33⟩) o0 ?restr33
        case hyr33 => (intro W hW; (try dsimp only at hW); go_simp; try with_reducible rfl)
        simp only [Act.put, List.setIfInBounds_toArray, List.set_cons_zero, List.set_cons_succ, List.getElem_toArray, List.getElem_cons_succ, List.getElem_cons_zero]
        refine wpTill_take (i := 4) (v := ?vr34) rfl (by kernel_rfl) (fun _ _ _ h => h) (Or.inl ⟨by rfl, ?hyr34⟩) o0 ?restr34
        case hyr34 => (intro W hW; (try dsimp only at hW); go_simp; try with_reducible rfl)
        simp only [Act.put, List.setIfInBounds_toArray, List.set_cons_zero, List.set_cons_succ, List.getElem_toArray, List.getElem_cons_succ, List.getElem_cons_zero]
        refine wpTill_take (i := 5) (v := ?vr35) rfl (by kernel_rfl) (fun _ _ _ h => h) (Or.inl ⟨by rfl, ?hyr35⟩) o0 ?restr35
        case hyr35 => (intro W hW; (try dsimp only at hW); go_simp; try with_reducible rfl)
        simp only [Act.put, List.setIfInBounds_toArray, List.set_cons_zero, List.set_cons_succ, List.getElem_toArray, List.getElem_cons_succ, List.getElem_cons_zero]
        refine wpTill_take (i := 6) (v := ?vr36) rfl (by kernel_rfl) (fun _ _ _ h => h) (Or.inl ⟨by rfl, ?hyr36⟩) o0 ?restr36
        case hyr36 => (intro W hW; (try dsimp only at hW); go_simp; try with_reducible rfl)
        simp only [Act.put, List.setIfInBounds_toArray, List.set_cons_zero, List.set_cons_succ, List.getElem_toArray, List.getElem_cons_succ, List.getElem_cons_zero]
        refine wpTill_take (i := 7) (v := ?vr37) rfl (by kernel_rfl) (fun _ _ _ h => h) (Or.inl ⟨by rfl, ?hyr37⟩) o0 ?restr37
        case hyr37 => (intro W hW; (try dsimp only at hW); go_simp; try with_reducible rfl)
        simp only [Act.put, List.setIfInBounds_toArray, List.set_cons_zero, List.set_cons_succ, List.getElem_toArray, List.getElem_cons_succ, List.getElem_cons_zero]
        refine wpTill_take (i := 8) (v := ?vr38) rfl (by kernel_rfl) (fun _ _ _ h => h) (Or.inl ⟨by rfl, ?hyr38⟩) o0 ?restr38
        case hyr38 => (intro W hW; (try dsimp only at hW); go_simp; try with_reducible rfl)
        simp only [Act.put, List.setIfInBounds_toArray, List.set_cons_zero, List.set_cons_succ, List.getElem_toArray, List.getElem_cons_succ, List.getElem_cons_zero]
        refine wpTill_take (i := 9) (v := ?vr39) rfl (by kernel_rfl) (fun _ _ _ h => h) (Or.inl ⟨by rfl, ?hyr39⟩) o0 ?restr39
        case hyr39 => (intro W hW; (try dsimp only at hW); go_simp; try with_reducible rfl)
        simp only [Act.put, List.setIfInBounds_toArray, List.set_cons_zero, List.set_cons_succ, List.getElem_toArray, List.getElem_cons_succ, List.getElem_cons_zero]
        refine wpTill_run (i := 10) (by kernel_rfl) rfl o0 (fun K hK => ?_)
        obtain ⟨w8, s8, h8, q8⟩ := LD.out.stA ty_dec 0 rfl 0 (rcs x.h) (cs' := rcs x.h) (by simp [rcs]) (L' := [(w.heap.size, 33, rcs x.h)]) rfl (Nat.le_of_ble_eq_true rfl) rfl (List.all_eq_true.2 (rcs_one x.h))
        go_simp
        have HC8 := Lib.hid (HD.out.same q8 HG.out)
        have o8 := HC8.out.blk
        have L8 := Lib.hid h8
        clear h8 q8
        refine hK _ _ ?_
        clear hK K
        refine wpTill_run (i := 11) (by kernel_rfl) rfl o8 (fun K hK => ?_)
        go_simp
        refine hK _ _ ?_
        clear hK K
        refine wpTill_run (i := 12) (by kernel_rfl) rfl o8 (fun K hK => ?_)
        go_simp
        refine hK _ _ ?_
        clear hK K
        refine wpTill_run (i := 13) (by kernel_rfl) rfl o8 (fun K hK => ?_)
        go_simp
        refine hK _ _ ?_
        clear hK K
        refine wpTill_done (by kernel_rfl) ?_
        clear a1 a2 o0 o8 s8
        go_wp2
        refine bodyPost_ret (shut_4 _ _ _ _ _ Tryd.results8 ty_dec (L8.out.get 0 rfl) rfl rfl rfl rfl rfl) rfl ?_
        exact dscan_fin HQ.out HE.out HC8.out L8.out.be (Nat.le_of_lt HG.out)
    · have g2 : ¬ (a : Int) < (s.length : Int) := by omega
      have hxf : Hid (x.b = false) := by show _ = _; cases hq : x.b; rfl; have := hxa.1 hq; omega
      have l9 := run_ldO ty_bool HC.out.blk 9 (v := .bool false) (by rw [dcs9, hxf.out])
      have hnp : Hid (¬ (s.drop a = [] ∧ x.b = true)) := sg_pos hxa (by omega) ha
      have hd := str_rest s a
      have hdl := Lib.hid (List.length_drop (i := a) (l := s))
      have hal := Lib.hid ha
      obtain ⟨d, hdd⟩ : ∃ d, d = s.drop a := ⟨_, rfl⟩
      rw [← hdd] at hnp hd hdl HSC
      have HDD := Lib.hid hdd
      clear hdd hgo
      have HNX : Hid (∀ w, Calls Tryd.prog 19 #[.string (str d)] w fun E w' => E = .returned (.tuple #[.string (str (fp d)), .int .i64 (fu d), .int .i64 (fe d)]) ∧ w.grownBy w' none) := fun w => refNext d w (by have := hdl.out; have := HS.out; omega)
      go_wp2_with fail
      refine (HNX.out _).mono ?_
      rintro E w1 ⟨rfl, hb1⟩
      have HC1 := Lib.hid (HC.out.to (below_of_grown hb1))
      have HL1 := Lib.hid (HL.out.to (below_of_grown hb1))
      clear hb1 HC HL HNX l9 hxf g2
      have HSN := Lib.hid (scn_nx (n := n) (a := a) (x := x) hnp.out)
      have hok := Lib.hid (nx_ok (s := d))
      have hpl := Lib.hid (fp_len d)
      by_cases he : fe d = 0
      · obtain ⟨e1, e2⟩ := nx_yes he
        rw [e1, e2] at HSN hok
        obtain ⟨e, he3⟩ : ∃ e, e = (tkR (fp d)).1 := ⟨_, rfl⟩
        obtain ⟨r, hr⟩ : ∃ r, r = (tkR (fp d)).2 := ⟨_, rfl⟩
        rw [← he3, ← hr] at HSN hok
        have HTK : Hid (∀ w, Calls Tryd.prog 20 #[.string (str (fp d))] w fun E w' => E = .returned (.tuple #[.agg (rcs r), .int .i64 e]) ∧ Below w.heap.size w w') := fun w => by rw [he3, hr]; exact dtake_c (fp d) w (by have := hpl.out; omega)
        clear e1 e2 he3 hr hpl
        rw [he]
        clear he
        generalize fp d = p at *
        generalize fu d = u at *
        go_wp2_with fail
        refine (HTK.out _).mono ?_
        rintro E w1b ⟨rfl, hb2⟩
        have HC1b := Lib.hid (HC1.out.to hb2)
        have HL1b := Lib.hid (HL1.out.to hb2)
        clear hb2 HC1 HL1 HTK
        obtain ⟨g9, w2, z9, s9, h9, q9⟩ := HL1b.out.newA ty_dec #[.int .i64 0, .int .u64 0, .int .u8 0, .int .u8 0, .int .u8 0, .int .u64 0, .int .u64 0, .int .u64 0, .int .u8 0] (rcs r) rfl rfl (List.all_eq_true.2 (rcs_one r))
        have HC2 := Lib.hid (HC1b.out.to (below_of_grown q9))
        have H9 := Lib.hid h9
        clear h9 q9
        by_cases he : e = 0
        · subst he
          obtain ⟨rf, rm, u6, ul⟩ := hok.out rfl
          have hu6 := Lib.hid u6
          have hul := Lib.hid ul
          have HA := Lib.hid (said_c HC2.out rf rm (by have := hfew.out; have := hal.out; have := HS.out; omega))
          clear rf rm hok u6 ul
          go_upto_region 10 with fail
          clear s9 z9
          have l9 := H9.out.ldA ty_dec 1 rfl 0 (vs := rcs r) (by simp [rcs]) (Nat.le_of_ble_eq_true rfl)
          obtain ⟨c, hc⟩ : ∃ c, c = tkS n x r := ⟨_, rfl⟩
          rw [← hc] at HA HSN
          have HCC := Lib.hid hc
          clear hc
          go_wp2_with fail
          refine HA.out.mono ?_
          rintro E w3 ⟨rfl, hct, hb3⟩
          have HL3 := Lib.hid ((show Loc w.heap.size w w2 [(w.heap.size, 33, #[.int .i64 0, .int .u64 0, .int .u8 0, .int .u8 0, .int .u8 0, .int .u64 0, .int .u64 0, .int .u64 0, .int .u8 0])] from H9.out.drop 1 rfl).upto hb3 (Nat.le_of_lt HG.out) (by intro q hq; simp only [List.mem_singleton] at hq; subst hq; exact HG.out))
          clear hb3 l9 HA H9 HC1b HC2 HL1b
          by_cases hc0 : c = 0
          · subst hc0
            rw [if_pos rfl] at hct
            obtain ⟨ao', cap', hct⟩ := hct
            have HC3 := Lib.hid hct
            have hau : Hid ((a : Int) + (u : Int) ≤ (s.length : Int)) := by show _ ≤ _; have := hul.out; have := hdl.out; have := hal.out; omega
            have hau2 := hau.out
            have hsz2 := HS.out
            clear hct
            go_wp2
            go_roundw
            case rel =>
              refine ⟨adS x r, ao', cap', a + u, by go_num, by have := hau.out; omega, ⟨fun _ => by have := hu6.out; omega, fun _ => adS_b HCC.out.symm⟩, ?_, HC3, HL3, ?_⟩
              · show scn n (adS x r) (a + u) (s.drop (a + u)) = R
                rw [← HSC.out, HSN.out]
                simp only [if_true]
                rw [HDD.out, List.drop_drop]
              · show (adS x r).l.length * 6 ≤ a + u + 6
                have h1 := hfew.out
                have h2 := hu6.out
                unfold adS
                (repeat' split) <;> simp <;> omega
            case measure => have := hu6.out; have := hau.out; simp [intOf]; omega
          · rw [if_neg hc0] at hct
            obtain ⟨ao', cap', hct⟩ := hct
            have HL := HL3
            have HE : Hid (R = ⟨x, a, c⟩) := by show _ = _; rw [← HSC.out, HSN.out]; simp only [if_true, if_neg hc0]
            have g3 : (c == 0) = false := beq_eq_false_iff_ne.2 hc0
            have g4 : (c != 0) = true := bne_iff_ne.2 hc0
            have HCx := Lib.hid hct
            clear hct HL3 hc0 HSN hfew
            obtain ⟨ao, cap, HC⟩ : ∃ ao cap, Hid (DtC w3 g n x ao cap) := ⟨ao', cap', HCx⟩
            go_upto_region 12 with fail
            have a1 := fun W (hW : Cells W g 61 (dcs x ao cap)) => run_ldA ty_dec hW 0 (by rw [dcs_size]; omega)
            have a2 := fun W (hW : Cells W g 61 (dcs x ao cap)) => run_ldO ty_drecs hW 10 (dcs10 x ao cap)
            have e0 := dcs_head x ao cap
            simp only [e0] at a1
            clear e0
            have HD := Lib.hid (HC.out.to (Below.refl _ w3).drew)
            have LD := Lib.hid HL.out.drew
            have o0 := HD.out.blk
            refine wp_region_till (S := fun W => Cells W g 61 (dcs x ao cap)) (by kernel_rfl) ?_
            refine wpTill_take (i := 0) (v := ?vr40) rfl (by kernel_rfl) (fun _ _ _ h => h) (Or.inl ⟨by rfl, ?hyr40⟩) o0 ?restr40
            case hyr40 => (intro W hW; (try dsimp only at hW); go_simp; try with_reducible rfl)
            simp only [Act.put, List.setIfInBounds_toArray, List.set_cons_zero, List.set_cons_succ, List.getElem_toArray, List.getElem_cons_succ, List.getElem_cons_zero]
            refine wpTill_take (i := 1) (v := ?vr41) rfl (by kernel_rfl) (fun _ _ _ h => h) (Or.inl ⟨by rfl, ?hyr41⟩) o0 ?restr41
            case hyr41 => (intro W hW; (try dsimp only at hW); go_simp; try with_reducible rfl)
            simp only [Act.put, List.setIfInBounds_toArray, List.set_cons_zero, List.set_cons_succ, List.getElem_toArray, List.getElem_cons_succ, List.getElem_cons_zero]
            refine wpTill_take (i := 2) (v := ?vr42) rfl (by kernel_rfl) (fun _ _ _ h => h) (Or.inl ⟨by rfl, ?hyr42⟩) o0 ?restr42
            case hyr42 => (intro W hW; (try dsimp only at hW); go_simp; try with_reducible rfl)
            simp only [Act.put, List.setIfInBounds_toArray, List.set_cons_zero, List.set_cons_succ, List.getElem_toArray, List.getElem_cons_succ, List.getElem_cons_zero]
            refine wpTill_take (i := 3) (v := ?vr43) rfl (by kernel_rfl) (fun _ _ _ h => h) (Or.inl ⟨by rfl, ?hyr43⟩) o0 ?restr43
            case hyr43 => (intro W hW; (try dsimp only at hW); go_simp; try with_reducible rfl)
            simp only [Act.put, List.setIfInBounds_toArray, List.set_cons_zero, List.set_cons_succ, List.getElem_toArray, List.getElem_cons_succ, List.getElem_cons_zero]
            refine wpTill_take (i := 4) (v := ?vr44) rfl (by kernel_rfl) (fun _ _ _ h => h) (Or.inl ⟨by rfl, ?hyr44⟩) o0 ?restr44
            case hyr44 => (intro W hW; (try dsimp only at hW); go_simp; try with_reducible rfl)
            simp only [Act.put, List.setIfInBounds_toArray, List.set_cons_zero, List.set_cons_succ, List.getElem_toArray, List.getElem_cons_succ, List.getElem_cons_zero]
            refine wpTill_take (i := 5) (v := ?vr45) rfl (by kernel_rfl) (fun _ _ _ h => h) (Or.inl ⟨by rfl, ?hyr45⟩) o0 ?restr45
            case hyr45 => (intro W hW; (try dsimp only at hW); go_simp; try with_reducible rfl)
            simp only [Act.put, List.setIfInBounds_toArray, List.set_cons_zero, List.set_cons_succ, List.getElem_toArray, List.getElem_cons_succ, List.getElem_cons_zero]
            refine wpTill_take (i := 6) (v := ?vr46) rfl (by kernel_rfl) (fun _ _ _ h => h) (Or.inl ⟨by rfl, ?hyr46⟩) o0 ?restr46
            case hyr46 => (intro W hW; (try dsimp only at hW); go_simp; try with_reducible rfl)
            simp only [Act.put, List.setIfInBounds_toArray, List.set_cons_zero, List.set_cons_succ, List.getElem_toArray, List.getElem_cons_succ, List.getElem_cons_zero]
            refine wpTill_take (i := 7) (v := ?vr47) rfl (by kernel_rfl) (fun _ _ _ h => h) (Or.inl ⟨by rfl, ?hyr47⟩) o0 ?restr47
            case hyr47 => (intro W hW; (try dsimp only at hW); go_simp; try with_reducible rfl)
            simp only [Act.put, List.setIfInBounds_toArray, List.set_cons_zero, List.set_cons_succ, List.getElem_toArray, List.getElem_cons_succ, List.getElem_cons_zero]
            refine wpTill_take (i := 8) (v := ?vr48) rfl (by kernel_rfl) (fun _ _ _ h => h) (Or.inl ⟨by rfl, ?hyr48⟩) o0 ?restr48
            case hyr48 => (intro W hW; (try dsimp only at hW); go_simp; try with_reducible rfl)
            simp only [Act.put, List.setIfInBounds_toArray, List.set_cons_zero, List.set_cons_succ, List.getElem_toArray, List.getElem_cons_succ, List.getElem_cons_zero]
            refine wpTill_take (i := 9) (v := ?vr49) rfl (by kernel_rfl) (fun _ _ _ h => h) (Or.inl ⟨by rfl, ?hyr49⟩) o0 ?restr49
            case hyr49 => (intro W hW; (try dsimp only at hW); go_simp; try with_reducible rfl)
            simp only [Act.put, List.setIfInBounds_toArray, List.set_cons_zero, List.set_cons_succ, List.getElem_toArray, List.getElem_cons_succ, List.getElem_cons_zero]
            refine wpTill_run (i := 10) (by kernel_rfl) rfl o0 (fun K hK => ?_)
            obtain ⟨w8, s8, h8, q8⟩ := LD.out.stA ty_dec 0 rfl 0 (rcs x.h) (cs' := rcs x.h) (by simp [rcs]) (L' := [(w.heap.size, 33, rcs x.h)]) rfl (Nat.le_of_ble_eq_true rfl) rfl (List.all_eq_true.2 (rcs_one x.h))
            go_simp
            have HC8 := Lib.hid (HD.out.same q8 HG.out)
            have o8 := HC8.out.blk
            have L8 := Lib.hid h8
            clear h8 q8
            refine hK _ _ ?_
            clear hK K
            refine wpTill_run (i := 11) (by kernel_rfl) rfl o8 (fun K hK => ?_)
            go_simp
            refine hK _ _ ?_
            clear hK K
            refine wpTill_run (i := 12) (by kernel_rfl) rfl o8 (fun K hK => ?_)
            go_simp
            refine hK _ _ ?_
            clear hK K
            refine wpTill_run (i := 13) (by kernel_rfl) rfl o8 (fun K hK => ?_)
            go_simp
            refine hK _ _ ?_
            clear hK K
            refine wpTill_done (by kernel_rfl) ?_
            clear a1 a2 o0 o8 s8
            go_wp2
            refine bodyPost_ret (shut_4 _ _ _ _ _ Tryd.results8 ty_dec (L8.out.get 0 rfl) rfl rfl rfl rfl rfl) rfl ?_
            exact dscan_fin HQ.out HE.out HC8.out L8.out.be (Nat.le_of_lt HG.out)
        · have HE : Hid (R = ⟨x, a, e⟩) := by show _ = _; rw [← HSC.out, HSN.out, if_neg he]
          have g3 : (e == 0) = false := beq_eq_false_iff_ne.2 he
          have g4 : (e != 0) = true := bne_iff_ne.2 he
          have HC := HC2
          have HL := Lib.hid (show Loc w.heap.size w w2 [(w.heap.size, 33, #[.int .i64 0, .int .u64 0, .int .u8 0, .int .u8 0, .int .u8 0, .int .u64 0, .int .u64 0, .int .u64 0, .int .u8 0])] from H9.out.drop 1 rfl)
          clear HSN he hok HC1b HL1b HC2
          go_upto_region 9 with fail
          have a1 := fun W (hW : Cells W g 61 (dcs x ao cap)) => run_ldA ty_dec hW 0 (by rw [dcs_size]; omega)
          have a2 := fun W (hW : Cells W g 61 (dcs x ao cap)) => run_ldO ty_drecs hW 10 (dcs10 x ao cap)
          have e0 := dcs_head x ao cap
          simp only [e0] at a1
          clear e0
          have HD := Lib.hid (HC.out.to (Below.refl _ w2).drew)
          have LD := Lib.hid HL.out.drew
          have o0 := HD.out.blk
          refine wp_region_till (S := fun W => Cells W g 61 (dcs x ao cap)) (by kernel_rfl) ?_
          refine wpTill_take (i := 0) (v := ?vr50) rfl (by kernel_rfl) (fun _ _ _ h => h) (Or.inl ⟨by rfl, ?hyr50⟩) o0 ?restr50
          case hyr50 => (intro W hW; (try dsimp only at hW); go_simp; try with_reducible rfl)
          simp only [Act.put, List.setIfInBounds_toArray, List.set_cons_zero, List.set_cons_succ, List.getElem_toArray, List.getElem_cons_succ, List.getElem_cons_zero]
          refine wpTill_take (i := 1) (v := ?vr51) rfl (by kernel_rfl) (fun _ _ _ h => h) (Or.inl ⟨by rfl, ?hyr51⟩) o0 ?restr51
          case hyr51 => (intro W hW; (try dsimp only at hW); go_simp; try with_reducible rfl)
          simp only [Act.put, List.setIfInBounds_toArray, List.set_cons_zero, List.set_cons_succ, List.getElem_toArray, List.getElem_cons_succ, List.getElem_cons_zero]
          refine wpTill_take (i := 2) (v := ?vr52) rfl (by kernel_rfl) (fun _ _ _ h => h) (Or.inl ⟨by rfl, ?hyr52⟩) o0 ?restr52
          case hyr52 => (intro W hW; (try dsimp only at hW); go_simp; try with_reducible rfl)
          simp only [Act.put, List.setIfInBounds_toArray, List.set_cons_zero, List.set_cons_succ, List.getElem_toArray, List.getElem_cons_succ, List.getElem_cons_zero]
          refine wpTill_take (i := 3) (v := ?vr53) rfl (by kernel_rfl) (fun _ _ _ h => h) (Or.inl ⟨by rfl, ?hyr53⟩) o0 ?restr53
          case hyr53 => (intro W hW; (try dsimp only at hW); go_simp; try with_reducible rfl)
          simp only [Act.put, List.setIfInBounds_toArray, List.set_cons_zero, List.set_cons_succ, List.getElem_toArray, List.getElem_cons_succ, List.getElem_cons_zero]
          refine wpTill_take (i := 4) (v := ?vr54) rfl (by kernel_rfl) (fun _ _ _ h => h) (Or.inl ⟨by rfl, ?hyr54⟩) o0 ?restr54
          case hyr54 => (intro W hW; (try dsimp only at hW); go_simp; try with_reducible rfl)
          simp only [Act.put, List.setIfInBounds_toArray, List.set_cons_zero, List.set_cons_succ, List.getElem_toArray, List.getElem_cons_succ, List.getElem_cons_zero]
          refine wpTill_take (i := 5) (v := ?vr55) rfl (by kernel_rfl) (fun _ _ _ h => h) (Or.inl ⟨by rfl, ?hyr55⟩) o0 ?restr55
          case hyr55 => (intro W hW; (try dsimp only at hW); go_simp; try with_reducible rfl)
          simp only [Act.put, List.setIfInBounds_toArray, List.set_cons_zero, List.set_cons_succ, List.getElem_toArray, List.getElem_cons_succ, List.getElem_cons_zero]
          refine wpTill_take (i := 6) (v := ?vr56) rfl (by kernel_rfl) (fun _ _ _ h => h) (Or.inl ⟨by rfl, ?hyr56⟩) o0 ?restr56
          case hyr56 => (intro W hW; (try dsimp only at hW); go_simp; try with_reducible rfl)
          simp only [Act.put, List.setIfInBounds_toArray, List.set_cons_zero, List.set_cons_succ, List.getElem_toArray, List.getElem_cons_succ, List.getElem_cons_zero]
          refine wpTill_take (i := 7) (v := ?vr57) rfl (by kernel_rfl) (fun _ _ _ h => h) (Or.inl ⟨by rfl, ?hyr57⟩) o0 ?restr57
          case hyr57 => (intro W hW; (try dsimp only at hW); go_simp; try with_reducible rfl)
          simp only [Act.put, List.setIfInBounds_toArray, List.set_cons_zero, List.set_cons_succ, List.getElem_toArray, List.getElem_cons_succ, List.getElem_cons_zero]
          refine wpTill_take (i := 8) (v := ?vr58) rfl (by kernel_rfl) (fun _ _ _ h => h) (Or.inl ⟨by rfl, ?hyr58⟩) o0 ?restr58
          case hyr58 => (intro W hW; (try dsimp only at hW); go_simp; try with_reducible rfl)
          simp only [Act.put, List.setIfInBounds_toArray, List.set_cons_zero, List.set_cons_succ, List.getElem_toArray, List.getElem_cons_succ, List.getElem_cons_zero]
          refine wpTill_take (i := 9) (v := ?vr59) rfl (by kernel_rfl) (fun _ _ _ h => h) (Or.inl ⟨by rfl, ?hyr59⟩) o0 ?restr59
          case hyr59 => (intro W hW; (try dsimp only at hW); go_simp; try with_reducible rfl)
          simp only [Act.put, List.setIfInBounds_toArray, List.set_cons_zero, List.set_cons_succ, List.getElem_toArray, List.getElem_cons_succ, List.getElem_cons_zero]
          refine wpTill_run (i := 10) (by kernel_rfl) rfl o0 (fun K hK => ?_)
          obtain ⟨w8, s8, h8, q8⟩ := LD.out.stA ty_dec 0 rfl 0 (rcs x.h) (cs' := rcs x.h) (by simp [rcs]) (L' := [(w.heap.size, 33, rcs x.h)]) rfl (Nat.le_of_ble_eq_true rfl) rfl (List.all_eq_true.2 (rcs_one x.h))
          go_simp
          have HC8 := Lib.hid (HD.out.same q8 HG.out)
          have o8 := HC8.out.blk
          have L8 := Lib.hid h8
          clear h8 q8
          refine hK _ _ ?_
          clear hK K
          refine wpTill_run (i := 11) (by kernel_rfl) rfl o8 (fun K hK => ?_)
          go_simp
          refine hK _ _ ?_
          clear hK K
          refine wpTill_run (i := 12) (by kernel_rfl) rfl o8 (fun K hK => ?_)
          go_simp
          refine hK _ _ ?_
          clear hK K
          refine wpTill_run (i := 13) (by kernel_rfl) rfl o8 (fun K hK => ?_)
          go_simp
          refine hK _ _ ?_
          clear hK K
          refine wpTill_done (by kernel_rfl) ?_
          clear a1 a2 o0 o8 s8
          go_wp2
          refine bodyPost_ret (shut_4 _ _ _ _ _ Tryd.results8 ty_dec (L8.out.get 0 rfl) rfl rfl rfl rfl rfl) rfl ?_
          exact dscan_fin HQ.out HE.out HC8.out L8.out.be (Nat.le_of_lt HG.out)
      · obtain ⟨e1, _, _⟩ := nx_bad he
        rw [e1] at HSN
        have HE : Hid (R = ⟨x, a, fe d⟩) := by show _ = _; rw [← HSC.out, HSN.out, if_neg he]
        have g3 : (fe d == 0) = false := beq_eq_false_iff_ne.2 he
        have g4 : (fe d != 0) = true := bne_iff_ne.2 he
        have HC := HC1
        have HL := HL1
        clear HSN he hok HC1 HL1 e1 hpl
        generalize fe d = e at *
        go_upto_region 6 with fail
        have a1 := fun W (hW : Cells W g 61 (dcs x ao cap)) => run_ldA ty_dec hW 0 (by rw [dcs_size]; omega)
        have a2 := fun W (hW : Cells W g 61 (dcs x ao cap)) => run_ldO ty_drecs hW 10 (dcs10 x ao cap)
        have e0 := dcs_head x ao cap
        simp only [e0] at a1
        clear e0
        have HD := Lib.hid (HC.out.to (Below.refl _ w1).drew)
        have LD := Lib.hid HL.out.drew
        have o0 := HD.out.blk
        refine wp_region_till (S := fun W => Cells W g 61 (dcs x ao cap)) (by kernel_rfl) ?_
        refine wpTill_take (i := 0) (v := ?vr60) rfl (by kernel_rfl) (fun _ _ _ h => h) (Or.inl ⟨by rfl, ?hyr60⟩) o0 ?restr60
        case hyr60 => (intro W hW; (try dsimp only at hW); go_simp; try with_reducible rfl)
        simp only [Act.put, List.setIfInBounds_toArray, List.set_cons_zero, List.set_cons_succ, List.getElem_toArray, List.getElem_cons_succ, List.getElem_cons_zero]
        refine wpTill_take (i := 1) (v := ?vr61) rfl (by kernel_rfl) (fun _ _ _ h => h) (Or.inl ⟨by rfl, ?hyr61⟩) o0 ?restr61
        case hyr61 => (intro W hW; (try dsimp only at hW); go_simp; try with_reducible rfl)
        simp only [Act.put, List.setIfInBounds_toArray, List.set_cons_zero, List.set_cons_succ, List.getElem_toArray, List.getElem_cons_succ, List.getElem_cons_zero]
        refine wpTill_take (i := 2) (v := ?vr62) rfl (by kernel_rfl) (fun _ _ _ h => h) (Or.inl ⟨by rfl, ?hyr62⟩) o0 ?restr62
        case hyr62 => (intro W hW; (try dsimp only at hW); go_simp; try with_reducible rfl)
        simp only [Act.put, List.setIfInBounds_toArray, List.set_cons_zero, List.set_cons_succ, List.getElem_toArray, List.getElem_cons_succ, List.getElem_cons_zero]
        refine wpTill_take (i := 3) (v := ?vr63) rfl (by kernel_rfl) (fun _ _ _ h => h) (Or.inl ⟨by rfl, ?hyr63⟩) o0 ?restr63
        case hyr63 => (intro W hW; (try dsimp only at hW); go_simp; try with_reducible rfl)
        simp only [Act.put, List.setIfInBounds_toArray, List.set_cons_zero, List.set_cons_succ, List.getElem_toArray, List.getElem_cons_succ, List.getElem_cons_zero]
        refine wpTill_take (i := 4) (v := ?vr64) rfl (by kernel_rfl) (fun _ _ _ h => h) (Or.inl ⟨by rfl, ?hyr64⟩) o0 ?restr64
        case hyr64 => (intro W hW; (try dsimp only at hW); go_simp; try with_reducible rfl)
        simp only [Act.put, List.setIfInBounds_toArray, List.set_cons_zero, List.set_cons_succ, List.getElem_toArray, List.getElem_cons_succ, List.getElem_cons_zero]
        refine wpTill_take (i := 5) (v := ?vr65) rfl (by kernel_rfl) (fun _ _ _ h => h) (Or.inl ⟨by rfl, ?hyr65⟩) o0 ?restr65
        case hyr65 => (intro W hW; (try dsimp only at hW); go_simp; try with_reducible rfl)
        simp only [Act.put, List.setIfInBounds_toArray, List.set_cons_zero, List.set_cons_succ, List.getElem_toArray, List.getElem_cons_succ, List.getElem_cons_zero]
        refine wpTill_take (i := 6) (v := ?vr66) rfl (by kernel_rfl) (fun _ _ _ h => h) (Or.inl ⟨by rfl, ?hyr66⟩) o0 ?restr66
        case hyr66 => (intro W hW; (try dsimp only at hW); go_simp; try with_reducible rfl)
        simp only [Act.put, List.setIfInBounds_toArray, List.set_cons_zero, List.set_cons_succ, List.getElem_toArray, List.getElem_cons_succ, List.getElem_cons_zero]
        refine wpTill_take (i := 7) (v := ?vr67) rfl (by kernel_rfl) (fun _ _ _ h => h) (Or.inl ⟨by rfl, ?hyr67⟩) o0 ?restr67
        case hyr67 => (intro W hW; (try dsimp only at hW); go_simp; try with_reducible rfl)
        simp only [Act.put, List.setIfInBounds_toArray, List.set_cons_zero, List.set_cons_succ, List.getElem_toArray, List.getElem_cons_succ, List.getElem_cons_zero]
        refine wpTill_take (i := 8) (v := ?vr68) rfl (by kernel_rfl) (fun _ _ _ h => h) (Or.inl ⟨by rfl, ?hyr68⟩) o0 ?restr68
        case hyr68 => (intro W hW; (try dsimp only at hW); go_simp; try with_reducible rfl)
        simp only [Act.put, List.setIfInBounds_toArray, List.set_cons_zero, List.set_cons_succ, List.getElem_toArray, List.getElem_cons_succ, List.getElem_cons_zero]
        refine wpTill_take (i := 9) (v := ?vr69) rfl (by kernel_rfl) (fun _ _ _ h => h) (Or.inl ⟨by rfl, ?hyr69⟩) o0 ?restr69
        case hyr69 => (intro W hW; (try dsimp only at hW); go_simp; try with_reducible rfl)
        simp only [Act.put, List.setIfInBounds_toArray, List.set_cons_zero, List.set_cons_succ, List.getElem_toArray, List.getElem_cons_succ, List.getElem_cons_zero]
        refine wpTill_run (i := 10) (by kernel_rfl) rfl o0 (fun K hK => ?_)
        obtain ⟨w8, s8, h8, q8⟩ := LD.out.stA ty_dec 0 rfl 0 (rcs x.h) (cs' := rcs x.h) (by simp [rcs]) (L' := [(w.heap.size, 33, rcs x.h)]) rfl (Nat.le_of_ble_eq_true rfl) rfl (List.all_eq_true.2 (rcs_one x.h))
        go_simp
        have HC8 := Lib.hid (HD.out.same q8 HG.out)
        have o8 := HC8.out.blk
        have L8 := Lib.hid h8
        clear h8 q8
        refine hK _ _ ?_
        clear hK K
        refine wpTill_run (i := 11) (by kernel_rfl) rfl o8 (fun K hK => ?_)
        go_simp
        refine hK _ _ ?_
        clear hK K
        refine wpTill_run (i := 12) (by kernel_rfl) rfl o8 (fun K hK => ?_)
        go_simp
        refine hK _ _ ?_
        clear hK K
        refine wpTill_run (i := 13) (by kernel_rfl) rfl o8 (fun K hK => ?_)
        go_simp
        refine hK _ _ ?_
        clear hK K
        refine wpTill_done (by kernel_rfl) ?_
        clear a1 a2 o0 o8 s8
        go_wp2
        refine bodyPost_ret (shut_4 _ _ _ _ _ Tryd.results8 ty_dec (L8.out.get 0 rfl) rfl rfl rfl rfl rfl) rfl ?_
        exact dscan_fin HQ.out HE.out HC8.out L8.out.be (Nat.le_of_lt HG.out)
    · have g2 : ¬ (a : Int) < (s.length : Int) := by omega
      have hxb : x.b = true := hxa.2 (by omega)
      have l9 := run_ldO ty_bool HC.out.blk 9 (v := .bool true) (by rw [dcs9, hxb])
      have HE : Hid (R = ⟨x, a, 0⟩) := by show _ = _; rw [← HSC.out, List.drop_of_length_le (by omega), scn_end hxb]
      clear hgo hxb
      go_upto_region 14 with fail
      have a1 := fun W (hW : Cells W g 61 (dcs x ao cap)) => run_ldA ty_dec hW 0 (by rw [dcs_size]; omega)
      have a2 := fun W (hW : Cells W g 61 (dcs x ao cap)) => run_ldO ty_drecs hW 10 (dcs10 x ao cap)
      have e0 := dcs_head x ao cap
      simp only [e0] at a1
      clear e0
      have HD := Lib.hid (HC.out.to (Below.refl _ wr).drew)
      have LD := Lib.hid HL.out.drew
      have o0 := HD.out.blk
      refine wp_region_till (S := fun W => Cells W g 61 (dcs x ao cap)) (by kernel_rfl) ?_
      refine wpTill_take (i := 0) (v := ?vr70) rfl (by kernel_rfl) (fun _ _ _ h => h) (Or.inl ⟨by rfl, ?hyr70⟩) o0 ?restr70
      case hyr70 => (intro W hW; (try dsimp only at hW); go_simp; try with_reducible rfl)
      simp only [Act.put, List.setIfInBounds_toArray, List.set_cons_zero, List.set_cons_succ, List.getElem_toArray, List.getElem_cons_succ, List.getElem_cons_zero]
      refine wpTill_take (i := 1) (v := ?vr71) rfl (by kernel_rfl) (fun _ _ _ h => h) (Or.inl ⟨by rfl, ?hyr71⟩) o0 ?restr71
      case hyr71 => (intro W hW; (try dsimp only at hW); go_simp; try with_reducible rfl)
      simp only [Act.put, List.setIfInBounds_toArray, List.set_cons_zero, List.set_cons_succ, List.getElem_toArray, List.getElem_cons_succ, List.getElem_cons_zero]
      refine wpTill_take (i := 2) (v := ?vr72) rfl (by kernel_rfl) (fun _ _ _ h => h) (Or.inl ⟨by rfl, ?hyr72⟩) o0 ?restr72
      case hyr72 => (intro W hW; (try dsimp only at hW); go_simp; try with_reducible rfl)
      simp only [Act.put, List.setIfInBounds_toArray, List.set_cons_zero, List.set_cons_succ, List.getElem_toArray, List.getElem_cons_succ, List.getElem_cons_zero]
      refine wpTill_take (i := 3) (v := ?vr73) rfl (by kernel_rfl) (fun _ _ _ h => h) (Or.inl ⟨by rfl, ?hyr73⟩) o0 ?restr73
      case hyr73 => (intro W hW; (try dsimp only at hW); go_simp; try with_reducible rfl)
      simp only [Act.put, List.setIfInBounds_toArray, List.set_cons_zero, List.set_cons_succ, List.getElem_toArray, List.getElem_cons_succ, List.getElem_cons_zero]
      refine wpTill_take (i := 4) (v := ?vr74) rfl (by kernel_rfl) (fun _ _ _ h => h) (Or.inl ⟨by rfl, ?hyr74⟩) o0 ?restr74
      case hyr74 => (intro W hW; (try dsimp only at hW); go_simp; try with_reducible rfl)
      simp only [Act.put, List.setIfInBounds_toArray, List.set_cons_zero, List.set_cons_succ, List.getElem_toArray, List.getElem_cons_succ, List.getElem_cons_zero]
      refine wpTill_take (i := 5) (v := ?vr75) rfl (by kernel_rfl) (fun _ _ _ h => h) (Or.inl ⟨by rfl, ?hyr75⟩) o0 ?restr75
      case hyr75 => (intro W hW; (try dsimp only at hW); go_simp; try with_reducible rfl)
      simp only [Act.put, List.setIfInBounds_toArray, List.set_cons_zero, List.set_cons_succ, List.getElem_toArray, List.getElem_cons_succ, List.getElem_cons_zero]
      refine wpTill_take (i := 6) (v := ?vr76) rfl (by kernel_rfl) (fun _ _ _ h => h) (Or.inl ⟨by rfl, ?hyr76⟩) o0 ?restr76
      case hyr76 => (intro W hW; (try dsimp only at hW); go_simp; try with_reducible rfl)
      simp only [Act.put, List.setIfInBounds_toArray, List.set_cons_zero, List.set_cons_succ, List.getElem_toArray, List.getElem_cons_succ, List.getElem_cons_zero]
      refine wpTill_take (i := 7) (v := ?vr77) rfl (by kernel_rfl) (fun _ _ _ h => h) (Or.inl ⟨by rfl, ?hyr77⟩) o0 ?restr77
      case hyr77 => (intro W hW; (try dsimp only at hW); go_simp; try with_reducible rfl)
      simp only [Act.put, List.setIfInBounds_toArray, List.set_cons_zero, List.set_cons_succ, List.getElem_toArray, List.getElem_cons_succ, List.getElem_cons_zero]
      refine wpTill_take (i := 8) (v := ?vr78) rfl (by kernel_rfl) (fun _ _ _ h => h) (Or.inl ⟨by rfl, ?hyr78⟩) o0 ?restr78
      case hyr78 => (intro W hW; (try dsimp only at hW); go_simp; try with_reducible rfl)
      simp only [Act.put, List.setIfInBounds_toArray, List.set_cons_zero, List.set_cons_succ, List.getElem_toArray, List.getElem_cons_succ, List.getElem_cons_zero]
      refine wpTill_run (i := 9) (by kernel_rfl) rfl o0 (fun K hK => ?_)
      obtain ⟨w8, s8, h8, q8⟩ := LD.out.stA ty_dec 0 rfl 0 (rcs x.h) (cs' := rcs x.h) (by simp [rcs]) (L' := [(w.heap.size, 33, rcs x.h)]) rfl (Nat.le_of_ble_eq_true rfl) rfl (List.all_eq_true.2 (rcs_one x.h))
      go_simp
      have HC8 := Lib.hid (HD.out.same q8 HG.out)
      have o8 := HC8.out.blk
      have L8 := Lib.hid h8
      clear h8 q8
      refine hK _ _ ?_
      clear hK K
      refine wpTill_run (i := 10) (by kernel_rfl) rfl o8 (fun K hK => ?_)
      go_simp
      refine hK _ _ ?_
      clear hK K
      refine wpTill_run (i := 11) (by kernel_rfl) rfl o8 (fun K hK => ?_)
      go_simp
      refine hK _ _ ?_
      clear hK K
      refine wpTill_run (i := 12) (by kernel_rfl) rfl o8 (fun K hK => ?_)
      go_simp
      refine hK _ _ ?_
      clear hK K
      refine wpTill_done (by kernel_rfl) ?_
      clear a1 a2 o0 o8 s8
      go_wp2
      refine bodyPost_ret (shut_4 _ _ _ _ _ Tryd.results8 ty_dec (L8.out.get 0 rfl) rfl rfl rfl rfl rfl) rfl ?_
      exact dscan_fin HQ.out HE.out HC8.out L8.out.be (Nat.le_of_lt HG.out)
end Go.Proofs.YthnelnfefllhpaaDoor
