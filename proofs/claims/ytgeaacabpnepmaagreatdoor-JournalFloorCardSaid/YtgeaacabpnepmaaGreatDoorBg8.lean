/- Texts of the walk. -/
import Derived.Test.YtgeaacabpnepmaaGreatDoorBf8
/- Scan, by the program: its contract. Conditions: the table of four steps lies in its variable; texts of 2^20 bytes at most. -/
namespace Go.Proofs.YtgeaacabpnepmaaGreatDoor
open Go.RowKit
set_option linter.unusedVariables false
set_option linter.unusedSimpArgs false
set_option maxRecDepth 20000

def ScanPost (w : World) (R : Sc) (E : Ending) (w' : World) : Prop :=
  ∃ ao cap, E = .returned (.tuple #[.agg (rcs R.x.h), .slice ao R.x.l.length cap, .int .i64 R.a, .int .i64 R.e]) ∧ RcsAt w' ao R.x.l ∧ (∀ a, ao = some a → w.heap.size ≤ a.block ∧ a.block < w'.heap.size) ∧ R.x.l.length ≤ cap ∧ cap ≤ maxLen ∧ (ao = none → cap = 0) ∧ Below w.heap.size w w'
theorem sg_pos {a : Nat} {x : Sg} (h : x.b = true ↔ 0 < a) {s : List UInt8} (hs : a < s.length ∨ a = 0) (ha : a ≤ s.length) : ¬ (s.drop a = [] ∧ x.b = true) := by
  rintro ⟨h1, h2⟩
  have h3 := h.1 h2
  have h4 := congrArg List.length h1
  rw [List.length_drop, List.length_nil] at h4
  omega
theorem Loc.upto {B B' : Nat} {w0 w w' : World} {L : List (Nat × TypeId × Array Value)} (h : Loc B w0 w L) (hb : Below B' w w') (hB : B ≤ B') (hl : ∀ e ∈ L, e.1 < B') : Loc B w0 w' L :=
  ⟨h.hb, h.be.trans (hb.mono hB), h.ge, h.nd, fun e he => (h.cs e he).below hb (hl e he)⟩
theorem CtC.same {w w' : World} {g n k : Nat} {x : Sg} {v : List Nat} {ao : Option Addr} {cap : Nat} (h : CtC w g n x v ao cap) (hb : w.grownBy w' (some k)) (hk : k < g) : CtC w' g n x v ao cap :=
  ⟨h.blk.grown hb (by intro e; cases e; omega), h.row.kept hb (by
    cases hv : (Value.slice ao x.l.length cap).ownBlock with
    | none => exact .inl rfl
    | some y => have := (h.row.lt y hv).1; exact .inr (by intro e; cases e; omega)), h.okg, h.inp, h.few⟩
theorem scan_fin {w w8 : World} {g n a : Nat} {x : Sg} {v : List Nat} {ao : Option Addr} {cap : Nat} {e : Int} {R : Sc} {Q : Ending → World → Prop} (hQ : Q = ScanPost w R) (hR : R = ⟨x, a, e⟩) (h : CtC w8 g n x v ao cap) (hb : Below w.heap.size w w8) (hg : w.heap.size ≤ g) :
    Q (.returned (.tuple #[.agg (rcs x.h), .slice ao x.l.length cap, .int .i64 a, .int .i64 e])) w8 := by
  subst hQ hR
  obtain ⟨h1, h2, h3, h4, h5⟩ := h.rcr.told
  exact ⟨ao, cap, rfl, h1, fun y hy => ⟨by have := (h2 y hy).1; omega, (h2 y hy).2⟩, h3, h4, h5, hb⟩
attribute [local go_sem ↓] ld_rec st_rec ld_recs st_cont
set_option maxHeartbeats 4000000 in
theorem scan_c (s : List UInt8) (n : Nat) (w : World) (hs : s.length ≤ 1048576) (hn : n < 18446744073709551616) (ht : Tab w) :
    Calls Tryz.prog 179 #[.string (str s), .int .u64 (n : Int)] w (ScanPost w (scn n sg0 0 s)) := by
  have hsz := str_size s
  have HT := Lib.hid ht
  have HS := Lib.hid hs
  have H0 := Lib.hid (Loc.one w 114 #[.int .i64 0, .int .u64 0, .int .u8 0, .int .u8 0, .int .u8 0, .int .u64 0, .int .u64 0, .int .u64 0, .int .u8 0])
  obtain ⟨R, hR⟩ : ∃ R, R = scn n sg0 0 s := ⟨_, rfl⟩
  rw [← hR]
  have HR := Lib.hid hR
  obtain ⟨Q, hQ⟩ : ∃ Q : Ending → World → Prop, Q = ScanPost w R := ⟨_, rfl⟩
  rw [← hQ]
  have HQ := Lib.hid hQ
  clear ht hs hR hQ
  go_enter Tryz.func179, Tryz.ntmps179
  go_upto_region 1 with fail
  generalize w.alloc (.cells #[.int .i64 0, .int .u64 0, .int .u8 0, .int .u8 0, .int .u8 0, .int .u64 0, .int .u64 0, .int .u64 0, .int .u8 0] 114) = wa at *
  obtain ⟨g, wb, z1, s1, h1, q1⟩ := H0.out.newA ty_cont #[.int .u64 0, .int .i64 0, .int .u64 0, .int .u8 0, .int .u8 0, .int .u8 0, .int .u64 0, .int .u64 0, .int .u64 0, .int .u8 0, .slice none 0 0, .int .u64 0, .int .u64 0, .int .u8 0, .int .u8 0, .int .u8 0, .int .u8 0, .int .u8 0, .int .u8 0, .int .u8 0, .int .u8 0, .int .u8 0, .int .u8 0, .int .u8 0, .int .u8 0] #[.int .u64 (n : Int), .int .i64 0, .int .u64 0, .int .u8 0, .int .u8 0, .int .u8 0, .int .u64 0, .int .u64 0, .int .u64 0, .int .u8 0, .slice none 0 0, .int .u64 0, .int .u64 0, .int .u8 0, .int .u8 0, .int .u8 0, .int .u8 0, .int .u8 0, .int .u8 0, .int .u8 0, .int .u8 0, .int .u8 0, .int .u8 0, .int .u8 0, .int .u8 0] rfl rfl (by simp [Value.oneCell'])
  go_upto_region 2 with fail
  clear s1
  have HG : Hid (w.heap.size < g) := by show _ < _; have := (H0.out.get 0 rfl).lt; omega
  have HL0 := Lib.hid (h1.drop 1 rfl)
  have HC0 : Hid (CtC wb g n sg0 (List.replicate 12 0) none 0) := ⟨h1.get 1 rfl, World.ownsRow_nil _ _ _ _, okg0 n, inps0, Nat.zero_le _⟩
  clear h1 q1 z1 H0
  go_loopw [6] (fun gd wr => ∃ (x : Sg) (v : List Nat) (ao : Option Addr) (cap a : Nat), gd = .int .i64 (a : Int) ∧ a ≤ s.length ∧ (x.b = true ↔ 0 < a) ∧ Hid (scn n x a (s.drop a) = R) ∧ Hid (CtC wr g n x v ao cap) ∧ Hid (Loc w.heap.size w wr [(w.heap.size, 114, #[.int .i64 0, .int .u64 0, .int .u8 0, .int .u8 0, .int .u8 0, .int .u64 0, .int .u64 0, .int .u64 0, .int .u8 0])]) ∧ Hid (x.l.length * 6 ≤ a + 6)) (fun gd _ => s.length - (intOf gd).toNat)
  case atStart => exact ⟨sg0, List.replicate 12 0, none, 0, 0, rfl, Nat.zero_le _, by simp [sg0], HR.out.symm, HC0, HL0, Nat.zero_le _⟩
  case round =>
    obtain ⟨x, v, ao, cap, a, rfl, ha, hxa, HSC, HC, HL, hfew⟩ := hrel
    clear HC0 HL0 HR
    have hgo : a = 0 ∨ (a ≠ 0 ∧ a < s.length) ∨ (a ≠ 0 ∧ ¬ a < s.length) := by omega
    rcases hgo with hgo | hgo | hgo
    · have g1 : ((a : Int) == 0) = true := beq_iff_eq.2 (by omega)
      have hnp : Hid (¬ (s.drop a = [] ∧ x.b = true)) := sg_pos hxa (by omega) ha
      have hd := str_rest s a
      have hdl := Lib.hid (List.length_drop (i := a) (l := s))
      have hal := Lib.hid ha
      obtain ⟨d, hdd⟩ : ∃ d, d = s.drop a := ⟨_, rfl⟩
      rw [← hdd] at hnp hd hdl HSC
      have HDD := Lib.hid hdd
      clear hdd hgo
      have HNX : Hid (∀ w, Tab w → Calls Tryz.prog 211 #[.string (str d)] w fun E w' => E = .returned (.tuple #[.agg (rcs (nxR d)), .int .i64 (fu d), .int .i64 (nxE d)]) ∧ Below w.heap.size w w') := fun w ht => snext_c d w (by have := hdl.out; have := HS.out; omega) ht
      have HTW := Lib.hid (tab_b HT.out HT.out.1 HL.out.be)
      go_wp2_with fail
      refine (HNX.out _ HTW.out).mono ?_
      rintro E w1 ⟨rfl, hb1⟩
      have HC1 := Lib.hid (HC.out.to hb1)
      have HL1 := Lib.hid (HL.out.to hb1)
      clear hb1 HC HL HNX HTW g1
      have hok := Lib.hid (nx_ok (s := d))
      have HSN := Lib.hid (scn_nx (n := n) (a := a) (x := x) hnp.out)
      generalize nxR d = r at *
      generalize nxE d = e at *
      generalize fu d = u at *
      obtain ⟨g9, w2, z9, s9, h9, q9⟩ := HL1.out.newA ty_rec #[.int .i64 0, .int .u64 0, .int .u8 0, .int .u8 0, .int .u8 0, .int .u64 0, .int .u64 0, .int .u64 0, .int .u8 0] (rcs r) rfl rfl (List.all_eq_true.2 (rcs_one r))
      have HC2 := Lib.hid (HC1.out.to (below_of_grown q9))
      have H9 := Lib.hid h9
      clear h9 q9
      by_cases he : e = 0
      · subst he
        obtain ⟨rf, rm, u6, ul⟩ := hok.out rfl
        have hu6 := Lib.hid u6
        have hul := Lib.hid ul
        have HA := Lib.hid (add_c HC2.out rf rm (by have := hfew.out; have := hal.out; have := HS.out; omega))
        clear rf rm hok u6 ul
        go_upto_region 5 with fail
        clear s9 z9
        have l9 := H9.out.ldA ty_rec 1 rfl 0 (vs := rcs r) (by simp [rcs]) (Nat.le_of_ble_eq_true rfl)
        obtain ⟨c, hc⟩ : ∃ c, c = tkS n x r := ⟨_, rfl⟩
        rw [← hc] at HA HSN
        have HCC := Lib.hid hc
        clear hc
        go_wp2_with fail
        refine HA.out.mono ?_
        rintro E w3 ⟨rfl, hct, hb3⟩
        have HL3 := Lib.hid ((show Loc w.heap.size w w2 [(w.heap.size, 114, #[.int .i64 0, .int .u64 0, .int .u8 0, .int .u8 0, .int .u8 0, .int .u64 0, .int .u64 0, .int .u64 0, .int .u8 0])] from H9.out.drop 1 rfl).upto hb3 (Nat.le_of_lt HG.out) (by intro q hq; simp only [List.mem_singleton] at hq; subst hq; exact HG.out))
        clear hb3 l9 HA H9 HC1 HC2 HL1
        by_cases hc0 : c = 0
        · subst hc0
          rw [if_pos rfl] at hct
          obtain ⟨v', ao', cap', hct⟩ := hct
          have HC3 := Lib.hid hct
          have hau : Hid ((a : Int) + (u : Int) ≤ (s.length : Int)) := by show _ ≤ _; have := hul.out; have := hdl.out; have := hal.out; omega
          have hau2 := hau.out
          have hsz2 := HS.out
          clear hct
          go_wp2
          go_roundw
          case rel =>
            refine ⟨adS x r, v', ao', cap', a + u, by go_num, by have := hau.out; omega, ⟨fun _ => by have := hu6.out; omega, fun _ => adS_b HCC.out.symm⟩, ?_, HC3, HL3, ?_⟩
            · show scn n (adS x r) (a + u) (s.drop (a + u)) = R
              rw [← HSC.out, HSN.out]
              simp only [if_true]
              rw [HDD.out, List.drop_drop]
            · show (adS x r).l.length * 6 ≤ a + u + 6
              have h1 := hfew.out
              have h2 := hu6.out
              unfold adS
              (repeat' split) <;> simp <;> omega
          case measure => have := hu6.out; have := hau.out; simp [intOf]; omega
        · rw [if_neg hc0] at hct
          obtain ⟨v', ao', cap', hct⟩ := hct
          have HC := Lib.hid hct
          have HL := HL3
          have HE : Hid (R = ⟨x, a, c⟩) := by show _ = _; rw [← HSC.out, HSN.out]; simp only [if_true, if_neg hc0]
          have g3 : (c == 0) = false := beq_eq_false_iff_ne.2 hc0
          have g4 : (c != 0) = true := bne_iff_ne.2 hc0
          clear hct HL3 hc0 HSN
          rename_i v0 ao0 cap0
          clear hfew
          obtain ⟨v, ao, cap, HC⟩ : ∃ v ao cap, Hid (CtC w3 g n x v ao cap) := ⟨v', ao', cap', HC⟩
          go_upto_region 7 with fail
          have a1 := fun W (hW : Cells W g 280 (ccs n x v ao cap)) => run_ldA ty_rec hW 1 (by rw [ccs_size _ _ _ _ _ HC.out.inp.1]; omega)
          have a2 := fun W (hW : Cells W g 280 (ccs n x v ao cap)) => run_ldO ty_recs hW 10 (ccs10 n x v ao cap)
          have e0 := ccs_head n x v ao cap
          simp only [e0] at a1
          clear e0
          have HD := Lib.hid (HC.out.to (Below.refl _ w3).drew)
          have LD := Lib.hid HL.out.drew
          have o0 := HD.out.blk
          refine wp_region_till (S := fun W => Cells W g 280 (ccs n x v ao cap)) (by kernel_rfl) ?_
          refine wpTill_take (i := 0) (v := ?vr10) rfl (by kernel_rfl) (fun _ _ _ h => h) (Or.inl ⟨by rfl, ?hyr10⟩) o0 ?restr10
          case hyr10 => (intro W hW; (try dsimp only at hW); go_simp; try with_reducible rfl)
          simp only [Act.put, List.setIfInBounds_toArray, List.set_cons_zero, List.set_cons_succ, List.getElem_toArray, List.getElem_cons_succ, List.getElem_cons_zero]
          refine wpTill_take (i := 1) (v := ?vr11) rfl (by kernel_rfl) (fun _ _ _ h => h) (Or.inl ⟨by rfl, ?hyr11⟩) o0 ?restr11
          case hyr11 => (intro W hW; (try dsimp only at hW); go_simp; try with_reducible rfl)
          simp only [Act.put, List.setIfInBounds_toArray, List.set_cons_zero, List.set_cons_succ, List.getElem_toArray, List.getElem_cons_succ, List.getElem_cons_zero]
          refine wpTill_take (i := 2) (v := ?vr12) rfl (by kernel_rfl) (fun _ _ _ h => h) (Or.inl ⟨by rfl, ?hyr12⟩) o0 ?restr12
          case hyr12 => (intro W hW; (try dsimp only at hW); go_simp; try with_reducible rfl)
          simp only [Act.put, List.setIfInBounds_toArray, List.set_cons_zero, List.set_cons_succ, List.getElem_toArray, List.getElem_cons_succ, List.getElem_cons_zero]
          refine wpTill_take (i := 3) (v := ?vr13) rfl (by kernel_rfl) (fun _ _ _ h => h) (Or.inl ⟨by rfl, ?hyr13⟩) o0 ?restr13
          case hyr13 => (intro W hW; (try dsimp only at hW); go_simp; try with_reducible rfl)
          simp only [Act.put, List.setIfInBounds_toArray, List.set_cons_zero, List.set_cons_succ, List.getElem_toArray, List.getElem_cons_succ, List.getElem_cons_zero]
          refine wpTill_take (i := 4) (v := ?vr14) rfl (by kernel_rfl) (fun _ _ _ h => h) (Or.inl ⟨by rfl, ?hyr14⟩) o0 ?restr14
          case hyr14 => (intro W hW; (try dsimp only at hW); go_simp; try with_reducible rfl)
          simp only [Act.put, List.setIfInBounds_toArray, List.set_cons_zero, List.set_cons_succ, List.getElem_toArray, List.getElem_cons_succ, List.getElem_cons_zero]
          refine wpTill_take (i := 5) (v := ?vr15) rfl (by kernel_rfl) (fun _ _ _ h => h) (Or.inl ⟨by rfl, ?hyr15⟩) o0 ?restr15
          case hyr15 => (intro W hW; (try dsimp only at hW); go_simp; try with_reducible rfl)
          simp only [Act.put, List.setIfInBounds_toArray, List.set_cons_zero, List.set_cons_succ, List.getElem_toArray, List.getElem_cons_succ, List.getElem_cons_zero]
          refine wpTill_run (i := 6) (by kernel_rfl) rfl o0 (fun K hK => ?_)
          obtain ⟨w8, s8, h8, q8⟩ := LD.out.stA ty_rec 0 rfl 0 (rcs x.h) (cs' := rcs x.h) (by simp [rcs]) (L' := [(w.heap.size, 114, rcs x.h)]) rfl (Nat.le_of_ble_eq_true rfl) rfl (List.all_eq_true.2 (rcs_one x.h))
          go_simp
          have HC8 := Lib.hid (HD.out.same q8 HG.out)
          have o8 := HC8.out.blk
          have L8 := Lib.hid h8
          clear h8 q8
          refine hK _ _ ?_
          clear hK K
          refine wpTill_run (i := 7) (by kernel_rfl) rfl o8 (fun K hK => ?_)
          go_simp
          refine hK _ _ ?_
          clear hK K
          refine wpTill_run (i := 8) (by kernel_rfl) rfl o8 (fun K hK => ?_)
          go_simp
          refine hK _ _ ?_
          clear hK K
          refine wpTill_run (i := 9) (by kernel_rfl) rfl o8 (fun K hK => ?_)
          go_simp
          refine hK _ _ ?_
          clear hK K
          refine wpTill_done (by kernel_rfl) ?_
          clear a1 a2 o0 o8 s8
          go_wp2
          refine bodyPost_ret (shut_4 _ _ _ _ _ Tryz.results179 ty_rec (L8.out.get 0 rfl) rfl rfl rfl rfl rfl) rfl ?_
          exact scan_fin HQ.out HE.out HC8.out L8.out.be (Nat.le_of_lt HG.out)
      · have HE : Hid (R = ⟨x, a, e⟩) := by show _ = _; rw [← HSC.out, HSN.out, if_neg he]
        have g3 : (e == 0) = false := beq_eq_false_iff_ne.2 he
        have g4 : (e != 0) = true := bne_iff_ne.2 he
        have HC := HC2
        have HL := Lib.hid (show Loc w.heap.size w w2 [(w.heap.size, 114, #[.int .i64 0, .int .u64 0, .int .u8 0, .int .u8 0, .int .u8 0, .int .u64 0, .int .u64 0, .int .u64 0, .int .u8 0])] from H9.out.drop 1 rfl)
        clear HSN he hok HC1 HL1 HC2
        go_upto_region 7 with fail
        have a1 := fun W (hW : Cells W g 280 (ccs n x v ao cap)) => run_ldA ty_rec hW 1 (by rw [ccs_size _ _ _ _ _ HC.out.inp.1]; omega)
        have a2 := fun W (hW : Cells W g 280 (ccs n x v ao cap)) => run_ldO ty_recs hW 10 (ccs10 n x v ao cap)
        have e0 := ccs_head n x v ao cap
        simp only [e0] at a1
        clear e0
        have HD := Lib.hid (HC.out.to (Below.refl _ w2).drew)
        have LD := Lib.hid HL.out.drew
        have o0 := HD.out.blk
        refine wp_region_till (S := fun W => Cells W g 280 (ccs n x v ao cap)) (by kernel_rfl) ?_
        refine wpTill_take (i := 0) (v := ?vr20) rfl (by kernel_rfl) (fun _ _ _ h => h) (Or.inl ⟨by rfl, ?hyr20⟩) o0 ?restr20
        case hyr20 => (intro W hW; (try dsimp only at hW); go_simp; try with_reducible rfl)
        simp only [Act.put, List.setIfInBounds_toArray, List.set_cons_zero, List.set_cons_succ, List.getElem_toArray, List.getElem_cons_succ, List.getElem_cons_zero]
        refine wpTill_take (i := 1) (v := ?vr21) rfl (by kernel_rfl) (fun _ _ _ h => h) (Or.inl ⟨by rfl, ?hyr21⟩) o0 ?restr21
        case hyr21 => (intro W hW; (try dsimp only at hW); go_simp; try with_reducible rfl)
        simp only [Act.put, List.setIfInBounds_toArray, List.set_cons_zero, List.set_cons_succ, List.getElem_toArray, List.getElem_cons_succ, List.getElem_cons_zero]
        refine wpTill_take (i := 2) (v := ?vr22) rfl (by kernel_rfl) (fun _ _ _ h => h) (Or.inl ⟨by rfl, ?hyr22⟩) o0 ?restr22
        case hyr22 => (intro W hW; (try dsimp only at hW); go_simp; try with_reducible rfl)
        simp only [Act.put, List.setIfInBounds_toArray, List.set_cons_zero, List.set_cons_succ, List.getElem_toArray, List.getElem_cons_succ, List.getElem_cons_zero]
        refine wpTill_take (i := 3) (v := ?vr23) rfl (by kernel_rfl) (fun _ _ _ h => h) (Or.inl ⟨by rfl, ?hyr23⟩) o0 ?restr23
        case hyr23 => (intro W hW; (try dsimp only at hW); go_simp; try with_reducible rfl)
        simp only [Act.put, List.setIfInBounds_toArray, List.set_cons_zero, List.set_cons_succ, List.getElem_toArray, List.getElem_cons_succ, List.getElem_cons_zero]
        refine wpTill_take (i := 4) (v := ?vr24) rfl (by kernel_rfl) (fun _ _ _ h => h) (Or.inl ⟨by rfl, ?hyr24⟩) o0 ?restr24
        case hyr24 => (intro W hW; (try dsimp only at hW); go_simp; try with_reducible rfl)
        simp only [Act.put, List.setIfInBounds_toArray, List.set_cons_zero, List.set_cons_succ, List.getElem_toArray, List.getElem_cons_succ, List.getElem_cons_zero]
        refine wpTill_take (i := 5) (v := ?vr25) rfl (by kernel_rfl) (fun _ _ _ h => h) (Or.inl ⟨by rfl, ?hyr25⟩) o0 ?restr25
        case hyr25 => (intro W hW; (try dsimp only at hW); go_simp; try with_reducible rfl)
        simp only [Act.put, List.setIfInBounds_toArray, List.set_cons_zero, List.set_cons_succ, List.getElem_toArray, List.getElem_cons_succ, List.getElem_cons_zero]
        refine wpTill_run (i := 6) (by kernel_rfl) rfl o0 (fun K hK => ?_)
        obtain ⟨w8, s8, h8, q8⟩ := LD.out.stA ty_rec 0 rfl 0 (rcs x.h) (cs' := rcs x.h) (by simp [rcs]) (L' := [(w.heap.size, 114, rcs x.h)]) rfl (Nat.le_of_ble_eq_true rfl) rfl (List.all_eq_true.2 (rcs_one x.h))
        go_simp
        have HC8 := Lib.hid (HD.out.same q8 HG.out)
        have o8 := HC8.out.blk
        have L8 := Lib.hid h8
        clear h8 q8
        refine hK _ _ ?_
        clear hK K
        refine wpTill_run (i := 7) (by kernel_rfl) rfl o8 (fun K hK => ?_)
        go_simp
        refine hK _ _ ?_
        clear hK K
        refine wpTill_run (i := 8) (by kernel_rfl) rfl o8 (fun K hK => ?_)
        go_simp
        refine hK _ _ ?_
        clear hK K
        refine wpTill_run (i := 9) (by kernel_rfl) rfl o8 (fun K hK => ?_)
        go_simp
        refine hK _ _ ?_
        clear hK K
        refine wpTill_done (by kernel_rfl) ?_
        clear a1 a2 o0 o8 s8
        go_wp2
        refine bodyPost_ret (shut_4 _ _ _ _ _ Tryz.results179 ty_rec (L8.out.get 0 rfl) rfl rfl rfl rfl rfl) rfl ?_
        exact scan_fin HQ.out HE.out HC8.out L8.out.be (Nat.le_of_lt HG.out)
    · have g1 : ((a : Int) == 0) = false := beq_eq_false_iff_ne.2 (by omega)
      have g2 : (a : Int) < (s.length : Int) := by omega
      have hnp : Hid (¬ (s.drop a = [] ∧ x.b = true)) := sg_pos hxa (by omega) ha
      have hd := str_rest s a
      have hdl := Lib.hid (List.length_drop (i := a) (l := s))
      have hal := Lib.hid ha
      obtain ⟨d, hdd⟩ : ∃ d, d = s.drop a := ⟨_, rfl⟩
      rw [← hdd] at hnp hd hdl HSC
      have HDD := Lib.hid hdd
      clear hdd hgo
      have HNX : Hid (∀ w, Tab w → Calls Tryz.prog 211 #[.string (str d)] w fun E w' => E = .returned (.tuple #[.agg (rcs (nxR d)), .int .i64 (fu d), .int .i64 (nxE d)]) ∧ Below w.heap.size w w') := fun w ht => snext_c d w (by have := hdl.out; have := HS.out; omega) ht
      have HTW := Lib.hid (tab_b HT.out HT.out.1 HL.out.be)
      go_wp2_with fail
      refine (HNX.out _ HTW.out).mono ?_
      rintro E w1 ⟨rfl, hb1⟩
      have HC1 := Lib.hid (HC.out.to hb1)
      have HL1 := Lib.hid (HL.out.to hb1)
      clear hb1 HC HL HNX HTW g2 g1
      have hok := Lib.hid (nx_ok (s := d))
      have HSN := Lib.hid (scn_nx (n := n) (a := a) (x := x) hnp.out)
      generalize nxR d = r at *
      generalize nxE d = e at *
      generalize fu d = u at *
      obtain ⟨g9, w2, z9, s9, h9, q9⟩ := HL1.out.newA ty_rec #[.int .i64 0, .int .u64 0, .int .u8 0, .int .u8 0, .int .u8 0, .int .u64 0, .int .u64 0, .int .u64 0, .int .u8 0] (rcs r) rfl rfl (List.all_eq_true.2 (rcs_one r))
      have HC2 := Lib.hid (HC1.out.to (below_of_grown q9))
      have H9 := Lib.hid h9
      clear h9 q9
      by_cases he : e = 0
      · subst he
        obtain ⟨rf, rm, u6, ul⟩ := hok.out rfl
        have hu6 := Lib.hid u6
        have hul := Lib.hid ul
        have HA := Lib.hid (add_c HC2.out rf rm (by have := hfew.out; have := hal.out; have := HS.out; omega))
        clear rf rm hok u6 ul
        go_upto_region 5 with fail
        clear s9 z9
        have l9 := H9.out.ldA ty_rec 1 rfl 0 (vs := rcs r) (by simp [rcs]) (Nat.le_of_ble_eq_true rfl)
        obtain ⟨c, hc⟩ : ∃ c, c = tkS n x r := ⟨_, rfl⟩
        rw [← hc] at HA HSN
        have HCC := Lib.hid hc
        clear hc
        go_wp2_with fail
        refine HA.out.mono ?_
        rintro E w3 ⟨rfl, hct, hb3⟩
        have HL3 := Lib.hid ((show Loc w.heap.size w w2 [(w.heap.size, 114, #[.int .i64 0, .int .u64 0, .int .u8 0, .int .u8 0, .int .u8 0, .int .u64 0, .int .u64 0, .int .u64 0, .int .u8 0])] from H9.out.drop 1 rfl).upto hb3 (Nat.le_of_lt HG.out) (by intro q hq; simp only [List.mem_singleton] at hq; subst hq; exact HG.out))
        clear hb3 l9 HA H9 HC1 HC2 HL1
        by_cases hc0 : c = 0
        · subst hc0
          rw [if_pos rfl] at hct
          obtain ⟨v', ao', cap', hct⟩ := hct
          have HC3 := Lib.hid hct
          have hau : Hid ((a : Int) + (u : Int) ≤ (s.length : Int)) := by show _ ≤ _; have := hul.out; have := hdl.out; have := hal.out; omega
          have hau2 := hau.out
          have hsz2 := HS.out
          clear hct
          go_wp2
          go_roundw
          case rel =>
            refine ⟨adS x r, v', ao', cap', a + u, by go_num, by have := hau.out; omega, ⟨fun _ => by have := hu6.out; omega, fun _ => adS_b HCC.out.symm⟩, ?_, HC3, HL3, ?_⟩
            · show scn n (adS x r) (a + u) (s.drop (a + u)) = R
              rw [← HSC.out, HSN.out]
              simp only [if_true]
              rw [HDD.out, List.drop_drop]
            · show (adS x r).l.length * 6 ≤ a + u + 6
              have h1 := hfew.out
              have h2 := hu6.out
              unfold adS
              (repeat' split) <;> simp <;> omega
          case measure => have := hu6.out; have := hau.out; simp [intOf]; omega
        · rw [if_neg hc0] at hct
          obtain ⟨v', ao', cap', hct⟩ := hct
          have HC := Lib.hid hct
          have HL := HL3
          have HE : Hid (R = ⟨x, a, c⟩) := by show _ = _; rw [← HSC.out, HSN.out]; simp only [if_true, if_neg hc0]
          have g3 : (c == 0) = false := beq_eq_false_iff_ne.2 hc0
          have g4 : (c != 0) = true := bne_iff_ne.2 hc0
          clear hct HL3 hc0 HSN
          rename_i v0 ao0 cap0
          clear hfew
          obtain ⟨v, ao, cap, HC⟩ : ∃ v ao cap, Hid (CtC w3 g n x v ao cap) := ⟨v', ao', cap', HC⟩
          go_upto_region 7 with fail
          have a1 := fun W (hW : Cells W g 280 (ccs n x v ao cap)) => run_ldA ty_rec hW 1 (by rw [ccs_size _ _ _ _ _ HC.out.inp.1]; omega)
          have a2 := fun W (hW : Cells W g 280 (ccs n x v ao cap)) => run_ldO ty_recs hW 10 (ccs10 n x v ao cap)
          have e0 := ccs_head n x v ao cap
          simp only [e0] at a1
          clear e0
          have HD := Lib.hid (HC.out.to (Below.refl _ w3).drew)
          have LD := Lib.hid HL.out.drew
          have o0 := HD.out.blk
          refine wp_region_till (S := fun W => Cells W g 280 (ccs n x v ao cap)) (by kernel_rfl) ?_
          refine wpTill_take (i := 0) (v := ?vr30) rfl (by kernel_rfl) (fun _ _ _ h => h) (Or.inl ⟨by rfl, ?hyr30⟩) o0 ?restr30
          case hyr30 => (intro W hW; (try dsimp only at hW); go_simp; try with_reducible rfl)
          simp only [Act.put, List.setIfInBounds_toArray, List.set_cons_zero, List.set_cons_succ, List.getElem_toArray, List.getElem_cons_succ, List.getElem_cons_zero]
          refine wpTill_take (i := 1) (v := ?vr31) rfl (by kernel_rfl) (fun _ _ _ h => h) (Or.inl ⟨by rfl, ?hyr31⟩) o0 ?restr31
          case hyr31 => (intro W hW; (try dsimp only at hW); go_simp; try with_reducible rfl)
          simp only [Act.put, List.setIfInBounds_toArray, List.set_cons_zero, List.set_cons_succ, List.getElem_toArray, List.getElem_cons_succ, List.getElem_cons_zero]
          refine wpTill_take (i := 2) (v := ?vr32) rfl (by kernel_rfl) (fun _ _ _ h => h) (Or.inl ⟨by rfl, ?hyr32⟩) o0 ?restr32
          case hyr32 => (intro W hW; (try dsimp only at hW); go_simp; try with_reducible rfl)
          simp only [Act.put, List.setIfInBounds_toArray, List.set_cons_zero, List.set_cons_succ, List.getElem_toArray, List.getElem_cons_succ, List.getElem_cons_zero]
          refine wpTill_take (i := 3) (v := ?vr33) rfl (by kernel_rfl) (fun _ _ _ h => h) (Or.inl ⟨by rfl, ?hyr33⟩) o0 ?restr33
          case hyr33 => (intro W hW; (try dsimp only at hW); go_simp; try with_reducible rfl)
          simp only [Act.put, List.setIfInBounds_toArray, List.set_cons_zero, List.set_cons_succ, List.getElem_toArray, List.getElem_cons_succ, List.getElem_cons_zero]
          refine wpTill_take (i := 4) (v := ?vr34) rfl (by kernel_rfl) (fun _ _ _ h => h) (Or.inl ⟨by rfl, ?hyr34⟩) o0 ?restr34
          case hyr34 => (intro W hW; (try dsimp only at hW); go_simp; try with_reducible rfl)
          simp only [Act.put, List.setIfInBounds_toArray, List.set_cons_zero, List.set_cons_succ, List.getElem_toArray, List.getElem_cons_succ, List.getElem_cons_zero]
          refine wpTill_take (i := 5) (v := ?vr35) rfl (by kernel_rfl) (fun _ _ _ h => h) (Or.inl ⟨by rfl, ?hyr35⟩) o0 ?restr35
          case hyr35 => (intro W hW; (try dsimp only at hW); go_simp; try with_reducible rfl)
          simp only [Act.put, List.setIfInBounds_toArray, List.set_cons_zero, List.set_cons_succ, List.getElem_toArray, List.getElem_cons_succ, List.getElem_cons_zero]
          refine wpTill_run (i := 6) (by kernel_rfl) rfl o0 (fun K hK => ?_)
          obtain ⟨w8, s8, h8, q8⟩ := LD.out.stA ty_rec 0 rfl 0 (rcs x.h) (cs' := rcs x.h) (by simp [rcs]) (L' := [(w.heap.size, 114, rcs x.h)]) rfl (Nat.le_of_ble_eq_true rfl) rfl (List.all_eq_true.2 (rcs_one x.h))
          go_simp
          have HC8 := Lib.hid (HD.out.same q8 HG.out)
          have o8 := HC8.out.blk
          have L8 := Lib.hid h8
          clear h8 q8
          refine hK _ _ ?_
          clear hK K
          refine wpTill_run (i := 7) (by kernel_rfl) rfl o8 (fun K hK => ?_)
          go_simp
          refine hK _ _ ?_
          clear hK K
          refine wpTill_run (i := 8) (by kernel_rfl) rfl o8 (fun K hK => ?_)
          go_simp
          refine hK _ _ ?_
          clear hK K
          refine wpTill_run (i := 9) (by kernel_rfl) rfl o8 (fun K hK => ?_)
          go_simp
          refine hK _ _ ?_
          clear hK K
          refine wpTill_done (by kernel_rfl) ?_
          clear a1 a2 o0 o8 s8
          go_wp2
          refine bodyPost_ret (shut_4 _ _ _ _ _ Tryz.results179 ty_rec (L8.out.get 0 rfl) rfl rfl rfl rfl rfl) rfl ?_
          exact scan_fin HQ.out HE.out HC8.out L8.out.be (Nat.le_of_lt HG.out)
      · have HE : Hid (R = ⟨x, a, e⟩) := by show _ = _; rw [← HSC.out, HSN.out, if_neg he]
        have g3 : (e == 0) = false := beq_eq_false_iff_ne.2 he
        have g4 : (e != 0) = true := bne_iff_ne.2 he
        have HC := HC2
        have HL := Lib.hid (show Loc w.heap.size w w2 [(w.heap.size, 114, #[.int .i64 0, .int .u64 0, .int .u8 0, .int .u8 0, .int .u8 0, .int .u64 0, .int .u64 0, .int .u64 0, .int .u8 0])] from H9.out.drop 1 rfl)
        clear HSN he hok HC1 HL1 HC2
        go_upto_region 7 with fail
        have a1 := fun W (hW : Cells W g 280 (ccs n x v ao cap)) => run_ldA ty_rec hW 1 (by rw [ccs_size _ _ _ _ _ HC.out.inp.1]; omega)
        have a2 := fun W (hW : Cells W g 280 (ccs n x v ao cap)) => run_ldO ty_recs hW 10 (ccs10 n x v ao cap)
        have e0 := ccs_head n x v ao cap
        simp only [e0] at a1
        clear e0
        have HD := Lib.hid (HC.out.to (Below.refl _ w2).drew)
        have LD := Lib.hid HL.out.drew
        have o0 := HD.out.blk
        refine wp_region_till (S := fun W => Cells W g 280 (ccs n x v ao cap)) (by kernel_rfl) ?_
        refine wpTill_take (i := 0) (v := ?vr40) rfl (by kernel_rfl) (fun _ _ _ h => h) (Or.inl ⟨by rfl, ?hyr40⟩) o0 ?restr40
        case hyr40 => (intro W hW; (try dsimp only at hW); go_simp; try with_reducible rfl)
        simp only [Act.put, List.setIfInBounds_toArray, List.set_cons_zero, List.set_cons_succ, List.getElem_toArray, List.getElem_cons_succ, List.getElem_cons_zero]
        refine wpTill_take (i := 1) (v := ?vr41) rfl (by kernel_rfl) (fun _ _ _ h => h) (Or.inl ⟨by rfl, ?hyr41⟩) o0 ?restr41
        case hyr41 => (intro W hW; (try dsimp only at hW); go_simp; try with_reducible rfl)
        simp only [Act.put, List.setIfInBounds_toArray, List.set_cons_zero, List.set_cons_succ, List.getElem_toArray, List.getElem_cons_succ, List.getElem_cons_zero]
        refine wpTill_take (i := 2) (v := ?vr42) rfl (by kernel_rfl) (fun _ _ _ h => h) (Or.inl ⟨by rfl, ?hyr42⟩) o0 ?restr42
        case hyr42 => (intro W hW; (try dsimp only at hW); go_simp; try with_reducible rfl)
        simp only [Act.put, List.setIfInBounds_toArray, List.set_cons_zero, List.set_cons_succ, List.getElem_toArray, List.getElem_cons_succ, List.getElem_cons_zero]
        refine wpTill_take (i := 3) (v := ?vr43) rfl (by kernel_rfl) (fun _ _ _ h => h) (Or.inl ⟨by rfl, ?hyr43⟩) o0 ?restr43
        case hyr43 => (intro W hW; (try dsimp only at hW); go_simp; try with_reducible rfl)
        simp only [Act.put, List.setIfInBounds_toArray, List.set_cons_zero, List.set_cons_succ, List.getElem_toArray, List.getElem_cons_succ, List.getElem_cons_zero]
        refine wpTill_take (i := 4) (v := ?vr44) rfl (by kernel_rfl) (fun _ _ _ h => h) (Or.inl ⟨by rfl, ?hyr44⟩) o0 ?restr44
        case hyr44 => (intro W hW; (try dsimp only at hW); go_simp; try with_reducible rfl)
        simp only [Act.put, List.setIfInBounds_toArray, List.set_cons_zero, List.set_cons_succ, List.getElem_toArray, List.getElem_cons_succ, List.getElem_cons_zero]
        refine wpTill_take (i := 5) (v := ?vr45) rfl (by kernel_rfl) (fun _ _ _ h => h) (Or.inl ⟨by rfl, ?hyr45⟩) o0 ?restr45
        case hyr45 => (intro W hW; (try dsimp only at hW); go_simp; try with_reducible rfl)
        simp only [Act.put, List.setIfInBounds_toArray, List.set_cons_zero, List.set_cons_succ, List.getElem_toArray, List.getElem_cons_succ, List.getElem_cons_zero]
        refine wpTill_run (i := 6) (by kernel_rfl) rfl o0 (fun K hK => ?_)
        obtain ⟨w8, s8, h8, q8⟩ := LD.out.stA ty_rec 0 rfl 0 (rcs x.h) (cs' := rcs x.h) (by simp [rcs]) (L' := [(w.heap.size, 114, rcs x.h)]) rfl (Nat.le_of_ble_eq_true rfl) rfl (List.all_eq_true.2 (rcs_one x.h))
        go_simp
        have HC8 := Lib.hid (HD.out.same q8 HG.out)
        have o8 := HC8.out.blk
        have L8 := Lib.hid h8
        clear h8 q8
        refine hK _ _ ?_
        clear hK K
        refine wpTill_run (i := 7) (by kernel_rfl) rfl o8 (fun K hK => ?_)
        go_simp
        refine hK _ _ ?_
        clear hK K
        refine wpTill_run (i := 8) (by kernel_rfl) rfl o8 (fun K hK => ?_)
        go_simp
        refine hK _ _ ?_
        clear hK K
        refine wpTill_run (i := 9) (by kernel_rfl) rfl o8 (fun K hK => ?_)
        go_simp
        refine hK _ _ ?_
        clear hK K
        refine wpTill_done (by kernel_rfl) ?_
        clear a1 a2 o0 o8 s8
        go_wp2
        refine bodyPost_ret (shut_4 _ _ _ _ _ Tryz.results179 ty_rec (L8.out.get 0 rfl) rfl rfl rfl rfl rfl) rfl ?_
        exact scan_fin HQ.out HE.out HC8.out L8.out.be (Nat.le_of_lt HG.out)
    · have g1 : ((a : Int) == 0) = false := beq_eq_false_iff_ne.2 (by omega)
      have g2 : ¬ (a : Int) < (s.length : Int) := by omega
      have hxb : x.b = true := hxa.2 (by omega)
      have HE : Hid (R = ⟨x, a, 0⟩) := by show _ = _; rw [← HSC.out, List.drop_of_length_le (by omega), scn_end hxb]
      clear hgo hxb
      go_upto_region 9 with fail
      have a1 := fun W (hW : Cells W g 280 (ccs n x v ao cap)) => run_ldA ty_rec hW 1 (by rw [ccs_size _ _ _ _ _ HC.out.inp.1]; omega)
      have a2 := fun W (hW : Cells W g 280 (ccs n x v ao cap)) => run_ldO ty_recs hW 10 (ccs10 n x v ao cap)
      have e0 := ccs_head n x v ao cap
      simp only [e0] at a1
      clear e0
      have HD := Lib.hid (HC.out.to (Below.refl _ wr).drew)
      have LD := Lib.hid HL.out.drew
      have o0 := HD.out.blk
      refine wp_region_till (S := fun W => Cells W g 280 (ccs n x v ao cap)) (by kernel_rfl) ?_
      refine wpTill_take (i := 0) (v := ?vr50) rfl (by kernel_rfl) (fun _ _ _ h => h) (Or.inl ⟨by rfl, ?hyr50⟩) o0 ?restr50
      case hyr50 => (intro W hW; (try dsimp only at hW); go_simp; try with_reducible rfl)
      simp only [Act.put, List.setIfInBounds_toArray, List.set_cons_zero, List.set_cons_succ, List.getElem_toArray, List.getElem_cons_succ, List.getElem_cons_zero]
      refine wpTill_take (i := 1) (v := ?vr51) rfl (by kernel_rfl) (fun _ _ _ h => h) (Or.inl ⟨by rfl, ?hyr51⟩) o0 ?restr51
      case hyr51 => (intro W hW; (try dsimp only at hW); go_simp; try with_reducible rfl)
      simp only [Act.put, List.setIfInBounds_toArray, List.set_cons_zero, List.set_cons_succ, List.getElem_toArray, List.getElem_cons_succ, List.getElem_cons_zero]
      refine wpTill_take (i := 2) (v := ?vr52) rfl (by kernel_rfl) (fun _ _ _ h => h) (Or.inl ⟨by rfl, ?hyr52⟩) o0 ?restr52
      case hyr52 => (intro W hW; (try dsimp only at hW); go_simp; try with_reducible rfl)
      simp only [Act.put, List.setIfInBounds_toArray, List.set_cons_zero, List.set_cons_succ, List.getElem_toArray, List.getElem_cons_succ, List.getElem_cons_zero]
      refine wpTill_take (i := 3) (v := ?vr53) rfl (by kernel_rfl) (fun _ _ _ h => h) (Or.inl ⟨by rfl, ?hyr53⟩) o0 ?restr53
      case hyr53 => (intro W hW; (try dsimp only at hW); go_simp; try with_reducible rfl)
      simp only [Act.put, List.setIfInBounds_toArray, List.set_cons_zero, List.set_cons_succ, List.getElem_toArray, List.getElem_cons_succ, List.getElem_cons_zero]
      refine wpTill_take (i := 4) (v := ?vr54) rfl (by kernel_rfl) (fun _ _ _ h => h) (Or.inl ⟨by rfl, ?hyr54⟩) o0 ?restr54
      case hyr54 => (intro W hW; (try dsimp only at hW); go_simp; try with_reducible rfl)
      simp only [Act.put, List.setIfInBounds_toArray, List.set_cons_zero, List.set_cons_succ, List.getElem_toArray, List.getElem_cons_succ, List.getElem_cons_zero]
      refine wpTill_run (i := 5) (by kernel_rfl) rfl o0 (fun K hK => ?_)
      obtain ⟨w8, s8, h8, q8⟩ := LD.out.stA ty_rec 0 rfl 0 (rcs x.h) (cs' := rcs x.h) (by simp [rcs]) (L' := [(w.heap.size, 114, rcs x.h)]) rfl (Nat.le_of_ble_eq_true rfl) rfl (List.all_eq_true.2 (rcs_one x.h))
      go_simp
      have HC8 := Lib.hid (HD.out.same q8 HG.out)
      have o8 := HC8.out.blk
      have L8 := Lib.hid h8
      clear h8 q8
      refine hK _ _ ?_
      clear hK K
      refine wpTill_run (i := 6) (by kernel_rfl) rfl o8 (fun K hK => ?_)
      go_simp
      refine hK _ _ ?_
      clear hK K
      refine wpTill_run (i := 7) (by kernel_rfl) rfl o8 (fun K hK => ?_)
      go_simp
      refine hK _ _ ?_
      clear hK K
      refine wpTill_run (i := 8) (by kernel_rfl) rfl o8 (fun K hK => ?_)
      go_simp
      refine hK _ _ ?_
      clear hK K
      refine wpTill_done (by kernel_rfl) ?_
      clear a1 a2 o0 o8 s8
      go_wp2
      refine bodyPost_ret (shut_4 _ _ _ _ _ Tryz.results179 ty_rec (L8.out.get 0 rfl) rfl rfl rfl rfl rfl) rfl ?_
      exact scan_fin HQ.out HE.out HC8.out L8.out.be (Nat.le_of_lt HG.out)
end Go.Proofs.YtgeaacabpnepmaaGreatDoor
