/- Texts of the walk. -/
import Derived.Test.YtgeaacabpnepmaaGreatDoorLi8
/- What the segments of a disk say, read. -/
namespace Go.Proofs.YtgeaacabpnepmaaGreatDoor
open Go.RowKit
set_option linter.unusedVariables false
set_option linter.unusedSimpArgs false
set_option maxRecDepth 20000

def RdPost (w : World) (e : Nat) (x : Cn) (R : Ending) (w' : World) : Prop :=
  ∃ ao ac po pc, R = .returned (.tuple #[.agg (cts x ao ac po pc), .int .i64 (e : Int)]) ∧ InAt w' ao x.ah ∧ PrAt w' po x.ps ∧ (x.ah.length ≤ ac ∧ ac ≤ maxLen) ∧ (x.ps.length ≤ pc ∧ pc ≤ maxLen) ∧ (∀ a, ao = some a → x.ah ≠ [] → w.heap.size ≤ a.block ∧ a.block < w'.heap.size) ∧ (∀ a, po = some a → x.ps ≠ [] → w.heap.size ≤ a.block ∧ a.block < w'.heap.size) ∧ (x.ah ≠ [] → ∀ a b, ao = some a → po = some b → a.block ≠ b.block) ∧ Below w.heap.size w w'
theorem PsAt.rec {w : World} {ao : Option Addr} {l : List (Nat × Nat)} (h : PsAt w ao l) {k : Nat} (hk : k < l.length) : ∃ b o, ao = some ⟨b, o, none⟩ ∧ ∀ W, Below w.heap.size w W → (ldT 122 (.pointer (some ⟨b, o + k * 2, none⟩))).run Tryz.prog W = .ok (.agg #[.int .u64 ((l[k]'hk).1 : Int), .int .u64 ((l[k]'hk).2 : Int)]) W := by
  obtain ⟨b, o, e, h1⟩ := h.one hk
  exact ⟨b, o, e, fun W hW => (h1 W hW).1 _ ty_part⟩
theorem turn_ah {p : Pw} {first : Bool} {x : Cn} {b : Bool} {n : Nat} (hp : (p.rd (sgn n)).length ≤ 65536) (hx : x.ah.length ≤ 11000) : (cnTurn p first x b n).ah.length ≤ 11000 := by
  obtain ⟨_, h2, _, _⟩ := seg_says p n hp
  have hat : (cnAt first x (segS p n).h.i).ah = x.ah := by unfold cnAt; split <;> rfl
  unfold cnTurn
  split
  · have := (fold_len (segS p n).l ⟨(cnAt first x (segS p n).h.i).fr, (cnAt first x (segS p n).h.i).c, [], (cnAt first x (segS p n).h.i).ps⟩).2
    unfold cnAdd
    simp only [List.length_nil] at this
    omega
  · rw [hat]; exact hx
theorem rd_ah {p : Pw} (hp : ∀ n, (p.rd (sgn n)).length ≤ 65536) : ∀ (l : List (Nat × Nat)) (first : Bool) (x : Cn) (b : Bool), x.ah.length ≤ 11000 → (cnRd p first x b l).2.ah.length ≤ 11000
  | [], _, x, _, h => h
  | s :: l, first, x, b, h => by
    by_cases h0 : p.rdc (sgn s.1) = 0
    · rw [rd_cons _ _ _ _ _ _ h0]
      exact rd_ah hp l false _ _ (turn_ah (hp s.1) h)
    · rw [rd_stop _ _ _ _ _ _ h0]
      exact Nat.zero_le _
attribute [local go_sem ↓] ld_part st_part ld_u64 st_u64 ld_int st_int ld_rec st_rec ld_jcont st_jcont
set_option maxHeartbeats 16000000 in
theorem jread_c {S : Nat → Prop} {gp q : Nat} {dv : Value} {kc : Nat} {ko : Option Addr} {p : Pw} (l : List (Nat × Nat)) (so : Option Addr) (sc : Nat) (w : World) (h : PwC S w gp dv q ko kc p) (hl : PsAt w so l) (hf : sgFit l) (hll : l.length ≤ 30) (hrd : ∀ n, (p.rd (sgn n)).length ≤ 65536) (ht : Tab w) :
    Calls Tryz.prog 125 #[.pointer (some ⟨gp, 0, none⟩), .slice so l.length sc] w (RdPost w (cnRd p true cn0 true l).1 (cnRd p true cn0 true l).2) := by
  have HPW := Lib.hid h
  have HPS := Lib.hid hl
  have HF := Lib.hid hf
  have HLL := Lib.hid hll
  have HRD := Lib.hid hrd
  have HT := Lib.hid ht
  have H0 := Loc.two w 133 133 (cts cn0 none 0 none 0) (cts cn0 none 0 none 0)
  obtain ⟨Q, hQ⟩ : ∃ Q : Ending → World → Prop, Q = RdPost w (cnRd p true cn0 true l).1 (cnRd p true cn0 true l).2 := ⟨_, rfl⟩
  rw [← hQ]
  have HQ := Lib.hid hQ
  clear h hl hf hll hrd ht hQ
  go_enter Tryz.func125, Tryz.ntmps125
  go_upto_region 2 with fail
  rw [show (#[.int .u64 0, .slice none 0 0, .int .u64 0, .slice none 0 0] : Array Value) = cts cn0 none 0 none 0 from rfl]
  generalize (w.alloc (.cells (cts cn0 none 0 none 0) 133)).alloc (.cells (cts cn0 none 0 none 0) 133) = wa at *
  have HLa := Lib.hid H0
  have HCa : Hid (JCo w.heap.size wa (w.heap.size + 1) [w.heap.size, w.heap.size + 1] cn0 none 0 none 0) := ⟨⟨H0.get 1 rfl, InAt.nil _ _, PrAt.nil _ _, ⟨Nat.le_refl _, Nat.zero_le _⟩, ⟨Nat.le_refl _, Nat.zero_le _⟩, fun a e => (by cases e), fun a e => (by cases e)⟩, GQ.nil _ _ _ _ _ fun b hb => by
    have h1 : w.heap.size < wa.heap.size := (H0.get 0 rfl : Cells wa w.heap.size _ _).lt
    have h2 : w.heap.size + 1 < wa.heap.size := (H0.get 1 rfl : Cells wa (w.heap.size + 1) _ _).lt
    rcases List.mem_cons.1 hb with rfl | hb
    · exact h1
    · rw [List.mem_singleton] at hb; subst hb; exact h2⟩
  have HRa : Hid (Cells wa w.heap.size 133 (cts cn0 none 0 none 0)) := H0.get 0 rfl
  have HBa := Lib.hid H0.be
  clear H0 HLa
  go_wp2
  go_loopw [7, 18] (fun lv iv wr => ∃ (k : Nat) (b : Bool) (X : Cn) (a1 : Option Addr) (c1 : Nat) (p1 : Option Addr) (d1 : Nat), k ≤ l.length ∧ iv = .int .i64 (k : Int) ∧ lv = .bool b ∧ Hid (cnRd p true cn0 true l = cnRd p (decide (k = 0)) X b (l.drop k)) ∧ Hid (CnOk X ∧ (k = 0 → X = cn0) ∧ X.ps.length ≤ 10922 * k ∧ X.ah.length ≤ 11000) ∧ Hid (JCo w.heap.size wr (w.heap.size + 1) [w.heap.size, w.heap.size + 1] X a1 c1 p1 d1) ∧ Hid (X.ah ≠ [] → ∀ a, a1 = some a → w.heap.size < a.block) ∧ Hid (X.ah ≠ [] → ∀ a b, a1 = some a → p1 = some b → a.block ≠ b.block) ∧ Hid (Cells wr w.heap.size 133 (cts cn0 none 0 none 0)) ∧ Hid (Below w.heap.size w wr)) (fun _ iv _ => l.length - (intOf iv).toNat)
  case atStart => exact ⟨0, true, cn0, none, 0, none, 0, Nat.zero_le _, rfl, rfl, by show _ = _; rw [List.drop_zero]; rfl, ⟨cn0_ok, fun _ => rfl, Nat.zero_le _, Nat.zero_le _⟩, HCa, fun h => absurd rfl h, fun h => absurd rfl h, HRa, HBa⟩
  case round =>
    obtain ⟨k, b, X, a1, c1, p1, d1, hk, rfl, rfl, HRQ, HXO, HC, HAH, HAP, HR, HB⟩ := hrel
    clear HCa HRa HBa
    by_cases hlt : k < l.length
    · obtain ⟨bb, oo, hb, hone⟩ := HPS.out.rec hlt
      subst hb
      have hld := hone wr HB.out
      have hfit := HF.out _ (List.getElem_mem hlt)
      have HPB0 : Hid ((∀ a, p1 = some a → a.block < wr.heap.size) ∧ w.heap.size + 1 < wr.heap.size ∧ w.heap.size ≤ wr.heap.size) := ⟨fun a e => (HC.out.r.blk e).2.1, HC.out.c.blk.lt, HB.out.size⟩
      have HLT := Lib.hid hlt
      have HDK := Lib.hid (List.drop_eq_getElem_cons hlt)
      obtain ⟨⟨s1, s2⟩, hs⟩ : ∃ s, s = l[k]'hlt := ⟨_, rfl⟩
      rw [← hs] at hld hfit HDK
      dsimp only at hld hfit HDK
      have HFT := Lib.hid hfit.1
      clear hone hs hfit
      obtain ⟨g9, w9, z9, s9, H9, q9⟩ := (Loc.nil (Nat.le_refl wr.heap.size)).newA ty_part #[.int .u64 0, .int .u64 0] #[.int .u64 (s1 : Int), .int .u64 (s2 : Int)] rfl rfl rfl
      replace H9 : Hid (Loc wr.heap.size wr w9 [(g9, 122, #[.int .u64 (s1 : Int), .int .u64 (s2 : Int)])]) := H9
      have l9 := H9.out.ldO ty_u64 0 rfl 0 (v := .int .u64 (s1 : Int)) rfl
      clear q9
      go_wp2_with fail
      refine (seg_c s1 w9 HFT.out).mono ?_
      rintro R w10 ⟨rfl, hb10⟩
      have H10 := Lib.hid (H9.out.to hb10)
      clear hb10 l9 s9 z9 hld H9
      rw [show str (115 :: hex s1) = str (sgn s1) from rfl]
      have HP10 := Lib.hid (HPW.out.new (HB.out.trans (H10.out.be.mono HB.out.size)))
      go_wp2_with fail
      refine (pread_c (sgn s1) w10 HP10.out (by rw [show (sgn s1).length = 17 from by simp [sgn, hex_len]]; decide)).mono ?_
      rintro R w11 ⟨rfl, hb11⟩
      have H11 := Lib.hid (H10.out.to hb11)
      clear hb11 H10 HP10
      have HB11 := Lib.hid (HB.out.trans (H11.out.be.mono HB.out.size))
      have HC11 := Lib.hid (HC.out.to H11.out.be)
      have HR11 := Lib.hid (cells_new HR.out H11.out.be)
      by_cases he : p.rdc (sgn s1) = 0
      case neg =>
        have hq : ((p.rdc (sgn s1) : Int) != 0) = true := by rw [bne_iff_ne]; omega
        obtain ⟨w12, st12, c12, q12, z12⟩ := cells_stA ty_jcont HR11.out 0 #[.int .u64 0, .slice none 0 0, .int .u64 0, .slice none 0 0] (Nat.le_of_ble_eq_true rfl) rfl rfl (cs' := cts cn0 none 0 none 0) rfl
        have HC12 := Lib.hid c12
        have HFin : Hid (Q (.returned (.tuple #[.agg (cts cn0 none 0 none 0), .int .i64 (p.rdc (sgn s1) : Int)])) w12) := by
          show Q _ _
          rw [HQ.out, HRQ.out, HDK.out, rd_stop p (decide (k = 0)) X b (s1, s2) (l.drop (k + 1)) he]
          exact ⟨none, 0, none, 0, rfl, InAt.nil _ _, PrAt.nil _ _, ⟨Nat.le_refl _, Nat.zero_le _⟩, ⟨Nat.le_refl _, Nat.zero_le _⟩, fun a e => (by cases e), fun a e => (by cases e), fun h => absurd rfl h, HB11.out.trans (grown_nb q12 (fun y e => by cases e; exact Nat.le_refl _) HB11.out.size)⟩
        clear c12 q12 z12 he
        go_wp2
        refine bodyPost_ret (shut_mans _ _ _ Tryz.results125 ty_jcont HC12.out rfl rfl rfl) rfl ?_
        exact HFin.out
      case pos =>
      have hq : ((p.rdc (sgn s1) : Int) != 0) = false := by rw [he]; rfl
      have hrn := HRQ.out
      rw [HDK.out, rd_cons p (decide (k = 0)) X b (s1, s2) (l.drop (k + 1)) he] at hrn
      have HRN := Lib.hid hrn
      obtain ⟨t1, t2, t3, t4⟩ := turn_okc (p := p) (first := decide (k = 0)) (x := X) (b := b) (n := s1) (HRD.out s1) HXO.out.1 (fun h => HXO.out.2.1 (of_decide_eq_true h))
      have t5 := turn_ah (p := p) (first := decide (k = 0)) (x := X) (b := b) (n := s1) (HRD.out s1) HXO.out.2.2.2
      obtain ⟨u1, u2, u3, u4⟩ := seg_says p s1 (HRD.out s1)
      have HTN := Lib.hid (And.intro t1 (And.intro t2 (And.intro t3 (And.intro t4 t5))))
      have HSG := Lib.hid (And.intro u1 (And.intro u2 u3))
      have l10 := H11.out.ldO ty_u64 0 rfl 0 (v := .int .u64 (s1 : Int)) rfl
      have hrds := HRD.out s1
      obtain ⟨Z, hZ⟩ : ∃ Z, Z = segS p s1 := ⟨_, rfl⟩
      have HSC := Lib.hid (scan_c (p.rd (sgn s1)) s1 w11 (by omega) HFT.out (tab_below HT.out HB11.out))
      have hzz : (scn s1 sg0 0 (p.rd (sgn s1))).x = Z := hZ.symm
      unfold cnTurn at HRN HTN
      rw [← hZ] at HRN HTN HSG
      clear he hrn t1 t2 t3 t4 t5 u1 u2 u3 u4 hrds
      go_wp2_with fail
      clear l10
      refine HSC.out.mono ?_
      unfold ScanPost
      rw [hzz]
      rintro R w12 ⟨o12, cp12, rfl, hr12, hn12, hc12, hm12, hz12, hb12⟩
      have H12 := H11.out.to hb12
      obtain ⟨g13, w13, z13, s13, H13, q13⟩ := H12.newA ty_rec #[.int .i64 0, .int .u64 0, .int .u8 0, .int .u8 0, .int .u8 0, .int .u64 0, .int .u64 0, .int .u64 0, .int .u8 0] (rcs Z.h) rfl rfl rfl
      replace H13 : Hid (Loc wr.heap.size wr w13 [(g9, 122, #[.int .u64 (s1 : Int), .int .u64 (s2 : Int)]), (g13, 114, rcs Z.h)]) := H13
      have hb13 := hb12.trans ((below_of_grown q13).mono hb12.size)
      have HC13 := Lib.hid (HC11.out.to hb13)
      have HR13 := Lib.hid (cells_new HR11.out hb13)
      have HB13 := Lib.hid (HB11.out.trans (hb13.mono HB11.out.size))
      have HRC13 := Lib.hid (And.intro (hr12.new (below_of_grown q13)) (fun a (e : o12 = some a) => show w11.heap.size ≤ a.block ∧ a.block < g13 from by have := hn12 a e; omega))
      have HZ13 : Hid (wr.heap.size ≤ w11.heap.size ∧ w11.heap.size ≤ g13) := ⟨H11.out.be.size, by rw [← z13]; exact hb12.size⟩
      have l5 := H13.out.ldO ty_u64 1 rfl 6 (v := .int .u64 (Z.h.i : Int)) rfl
      clear hb12 hb13 hr12 hn12 hc12 hm12 hz12 q13 H12 HC11 HR11 HB11 H11 HC HR hZ hzz
      have hat : (cnAt (decide (k = 0)) X Z.h.i).ah = X.ah ∧ (cnAt (decide (k = 0)) X Z.h.i).ps = X.ps := by unfold cnAt; split <;> exact ⟨rfl, rfl⟩
      obtain ⟨Y, hY⟩ : ∃ Y, Y = cnAt (decide (k = 0)) X Z.h.i := ⟨_, rfl⟩
      rw [← hY] at hat HRN HTN
      have HY := Lib.hid (And.intro hY hat)
      have HPB : Hid ((∀ a, p1 = some a → a.block < wr.heap.size) ∧ w.heap.size + 1 < wr.heap.size ∧ w.heap.size ≤ wr.heap.size) := HPB0.out
      clear hY hat
      go_upto_if 45 with fail
      go_cut [] (fun wx => ∃ W, W = wx ∧ Hid (Cells W (w.heap.size + 1) 133 (cts Y a1 c1 p1 d1)) ∧ Hid (w13.grownBy W (some (w.heap.size + 1))))
      case first =>
        by_cases hk0 : k = 0
        case neg =>
          have hq : ((k : Int) == 0) = false := beq_eq_false_iff_ne.2 (by omega)
          have HF : Hid (Cells w13 (w.heap.size + 1) 133 (cts Y a1 c1 p1 d1)) ∧ Hid (w13.grownBy w13 (some (w.heap.size + 1))) := by
            have e : Y = X := by rw [HY.out.1]; unfold cnAt; rw [decide_eq_false hk0]; rfl
            rw [e]
            exact ⟨HC13.out.c.blk, ⟨rfl, rfl, rfl, Nat.le_refl _, fun _ _ _ => rfl⟩⟩
          have HF2 := Lib.hid HF
          clear HF hk0 l5
          go_wp2_with fail
          all_goals go_meet
          all_goals exact ⟨_, rfl, HF2.out⟩
        case pos =>
          have hq : ((k : Int) == 0) = true := by rw [hk0]; rfl
          have HK0 := Lib.hid hk0
          clear hk0 l5
          go_upto_region 11 with fail
          have HLd := Lib.hid H13.out.drew
          have HCd := Lib.hid (HC13.out.c.blk |> fun hc => cells_new hc (Below.refl _ w13).drew)
          have HGd : Hid (w13.grownBy w13.drew (some (w.heap.size + 1))) := ⟨rfl, rfl, rfl, Nat.le_refl _, fun _ _ _ => rfl⟩
          generalize hwd : w13.drew = wd at *
          have hs0 : (ldT 37 (.pointer (some ⟨g13, 6, none⟩))).run Tryz.prog wd = .ok (.int .u64 (Z.h.i : Int)) wd := HLd.out.ldO ty_u64 1 rfl 6 rfl
          refine wp_region_to (K := [1, 3, 4, 5, 7, 8]) (S := fun W => (ldT 37 (.pointer (some ⟨g13, 6, none⟩))).run Tryz.prog W = .ok (.int .u64 (Z.h.i : Int)) W) (by kernel_rfl) ?_
          rw [hwd]
          clear hwd
          refine wpTo_take (i := 0) (v := ?va0) rfl (by kernel_rfl) (fun _ _ _ h => h) (Or.inl ⟨by rfl, ?hya0⟩) hs0 ?resta0
          case hya0 => (rintro W hW1; go_simp; try with_reducible rfl)
          simp only [Act.put, List.setIfInBounds_toArray, List.set_cons_zero, List.set_cons_succ, List.getElem_toArray, List.getElem_cons_succ, List.getElem_cons_zero]
          refine wpTo_take (i := 1) (v := ?va1) rfl (by kernel_rfl) (fun _ _ _ h => h) (Or.inl ⟨by rfl, ?hya1⟩) hs0 ?resta1
          case hya1 => (rintro W hW1; go_simp; try with_reducible rfl)
          simp only [Act.put, List.setIfInBounds_toArray, List.set_cons_zero, List.set_cons_succ, List.getElem_toArray, List.getElem_cons_succ, List.getElem_cons_zero]
          refine wpTo_take (i := 2) (v := ?va2) rfl (by kernel_rfl) (fun _ _ _ h => h) (Or.inl ⟨by rfl, ?hya2⟩) hs0 ?resta2
          case hya2 => (rintro W hW1; go_simp; try with_reducible rfl)
          simp only [Act.put, List.setIfInBounds_toArray, List.set_cons_zero, List.set_cons_succ, List.getElem_toArray, List.getElem_cons_succ, List.getElem_cons_zero]
          refine wpTo_take (i := 3) (v := ?va3) rfl (by kernel_rfl) (fun _ _ _ h => h) (Or.inl ⟨by rfl, ?hya3⟩) hs0 ?resta3
          case hya3 => (rintro W hW1; go_simp; try with_reducible rfl)
          simp only [Act.put, List.setIfInBounds_toArray, List.set_cons_zero, List.set_cons_succ, List.getElem_toArray, List.getElem_cons_succ, List.getElem_cons_zero]
          refine wpTo_take (i := 4) (v := ?va4) rfl (by kernel_rfl) (fun _ _ _ h => h) (Or.inl ⟨by rfl, ?hya4⟩) hs0 ?resta4
          case hya4 => (rintro W hW1; go_simp; try with_reducible rfl)
          simp only [Act.put, List.setIfInBounds_toArray, List.set_cons_zero, List.set_cons_succ, List.getElem_toArray, List.getElem_cons_succ, List.getElem_cons_zero]
          refine wpTo_run (i := 5) (by kernel_rfl) rfl (fun _ => hs0) (fun K hK => ?_)
          obtain ⟨w14, s14, c14, q14, z14⟩ := cells_st ty_u64 HCd.out 2 (Nat.le_of_ble_eq_true rfl) (.int .u64 (Z.h.i : Int)) rfl rfl (cs' := cts ⟨Z.h.i, X.c, X.ah, X.ps⟩ a1 c1 p1 d1) rfl
          have HG14 := Lib.hid (HGd.out.trans q14)
          have hg13 : Cells w14 g13 114 (rcs Z.h) := Cells.grown (HLd.out.get 1 rfl) q14 (fun e => by cases e; have := HZ13.out; have := HPB.out.2.1; omega)
          have hs14 : (ldT 37 (.pointer (some ⟨g13, 6, none⟩))).run Tryz.prog w14 = .ok (.int .u64 (Z.h.i : Int)) w14 := run_ldO ty_u64 hg13 6 rfl
          obtain ⟨w15, s15, c15, q15, z15⟩ := cells_st ty_u64 c14 0 (Nat.le_of_ble_eq_true rfl) (.int .u64 (Z.h.i : Int)) rfl rfl (cs' := cts ⟨Z.h.i, Z.h.i, X.ah, X.ps⟩ a1 c1 p1 d1) rfl
          have HC15 := Lib.hid c15
          have HG15 := Lib.hid (HG14.out.trans q15)
          clear c14 q14 z14 c15 q15 z15 hg13
          go_simp
          refine hK _ _ ?_
          clear hK K
          refine wpTo_take (i := 6) (v := ?va6) rfl (by kernel_rfl) (fun _ _ _ h => h) (Or.inl ⟨by rfl, ?hya6⟩) hs14 ?resta6
          case hya6 => (rintro W hW1; go_simp; try with_reducible rfl)
          simp only [Act.put, List.setIfInBounds_toArray, List.set_cons_zero, List.set_cons_succ, List.getElem_toArray, List.getElem_cons_succ, List.getElem_cons_zero]
          refine wpTo_take (i := 7) (v := ?va7) rfl (by kernel_rfl) (fun _ _ _ h => h) (Or.inl ⟨by rfl, ?hya7⟩) hs14 ?resta7
          case hya7 => (rintro W hW1; go_simp; try with_reducible rfl)
          simp only [Act.put, List.setIfInBounds_toArray, List.set_cons_zero, List.set_cons_succ, List.getElem_toArray, List.getElem_cons_succ, List.getElem_cons_zero]
          refine wpTo_run (i := 8) (by kernel_rfl) rfl (fun _ => hs14) (fun K hK => ?_)
          go_simp
          refine hK _ _ ?_
          clear hK K
          refine wpTo_done (by kernel_rfl) (by kernel_rfl) ?_
          have HF2 : Hid (Hid (Cells w15 (w.heap.size + 1) 133 (cts Y a1 c1 p1 d1)) ∧ Hid (w13.grownBy w15 (some (w.heap.size + 1)))) := by
            have e : Y = ⟨Z.h.i, Z.h.i, X.ah, X.ps⟩ := by rw [HY.out.1]; unfold cnAt; rw [decide_eq_true HK0.out]; rfl
            rw [e]
            exact ⟨HC15.out, HG15.out⟩
          clear hs0 hs14 s14 s15
          go_wp2_with fail
          all_goals go_meet
          all_goals exact ⟨_, rfl, HF2.out⟩
      case rest =>
      obtain ⟨wx, rfl, HCY, HGY⟩ := hcut
      have kY : Tu (fun y => y = w.heap.size + 1) w13 wx := Tu.of_same HGY.out
      have hRne : ¬ (w.heap.size = w.heap.size + 1) := by omega
      have HRY := Lib.hid (Cells.tu HR13.out kY hRne)
      have HBY := Lib.hid (HB13.out.trans (kY.below (fun x hx e => by omega) HB13.out.size))
      have HHY := Lib.hid (Cells.tu (H13.out.get 1 rfl) kY (by have := HZ13.out; have := HPB.out.2.1; omega))
      have HJY : Hid (JCo w.heap.size wx (w.heap.size + 1) [w.heap.size, w.heap.size + 1] Y a1 c1 p1 d1) := by
        have h := HC13.out
        refine ⟨⟨HCY.out, ?_, ?_, ?_, ?_, ?_, ?_⟩, ?_⟩
        · rw [HY.out.2.1]; exact h.c.ins.tu kY fun h0 a e => h.c.ia a e h0
        · rw [HY.out.2.2]; exact h.c.prs.tu kY fun h0 a e => h.c.pa a e h0
        · rw [HY.out.2.1]; exact h.c.ic
        · rw [HY.out.2.2]; exact h.c.pc
        · rw [HY.out.2.1]; exact h.c.ia
        · rw [HY.out.2.2]; exact h.c.pa
        · rw [HY.out.2.2]; exact h.r.turn (by simp) HGY.out
      have HRX := Lib.hid (show RcsAt wx o12 Z.l from HRC13.out.1.tu kY fun a e h => by have := (HRC13.out.2 a e).1; have := HZ13.out.1; have := HPB.out.2.1; omega)
      clear HCY HGY kY hRne HR13 HB13 HC13 H13
      have lk := run_ldO ty_int HHY.out 0 (v := .int .i64 Z.h.k) rfl
      have li := run_ldO ty_u64 HHY.out 6 (v := .int .u64 (Z.h.i : Int)) rfl
      have lc := run_ldO ty_u64 HJY.out.c.blk 0 (v := .int .u64 (Y.c : Int)) rfl
      obtain ⟨yes, hyes⟩ : ∃ yes, yes = cnYes b Z.h Y := ⟨_, rfl⟩
      rw [← hyes] at HRN HTN
      have HYES := Lib.hid hyes
      clear hyes l5
      go_upto_region 12 with fail
      go_cut [7] (fun v w' => v = .bool yes ∧ wx = w')
      case first =>
        have hyy := HYES.out
        unfold cnYes at hyy
        cases b
        · have e : yes = false := hyy
          have HE := Lib.hid e
          clear hyy e
          go_wp2_with fail
          all_goals go_meet
          all_goals exact ⟨by rw [HE.out], rfl⟩
        · by_cases hk3 : Z.h.k = 3
          · have hq3 : (Z.h.k == 3) = true := beq_iff_eq.2 hk3
            by_cases hi3 : Z.h.i = Y.c
            · have hq4 : ((Z.h.i : Int) == (Y.c : Int)) = true := by rw [hi3]; simp
              have e : yes = true := by rw [hyy, decide_eq_true hk3, decide_eq_true hi3]; rfl
              have HE := Lib.hid e
              clear e hk3 hi3 hyy
              go_wp2_with fail
              all_goals go_meet
              all_goals exact ⟨by rw [HE.out], rfl⟩
            · have hq4 : ((Z.h.i : Int) == (Y.c : Int)) = false := beq_eq_false_iff_ne.2 (by omega)
              have e : yes = false := by rw [hyy, decide_eq_false hi3]; simp
              have HE := Lib.hid e
              clear e hk3 hi3 hyy
              go_wp2_with fail
              all_goals go_meet
              all_goals exact ⟨by rw [HE.out], rfl⟩
          · have hq3 : (Z.h.k == 3) = false := beq_eq_false_iff_ne.2 hk3
            have e : yes = false := by rw [hyy, decide_eq_false hk3]; simp
            have HE := Lib.hid e
            clear e hk3 hyy
            go_wp2_with fail
            all_goals go_meet
            all_goals exact ⟨by rw [HE.out], rfl⟩
      case rest =>
      obtain ⟨rfl, rfl⟩ := hcut
      clear lk li lc
      cases yes
      · have HRN2 : Hid (cnRd p true cn0 true l = cnRd p false Y false (l.drop (k + 1))) := HRN.out
        have HX2 : Hid (CnOk Y ∧ (k + 1 = 0 → Y = cn0) ∧ Y.ps.length ≤ 10922 * (k + 1) ∧ Y.ah.length ≤ 11000) := by
          have h := HTN.out
          exact ⟨h.1, fun h => by omega, by have h1 := h.2.1; simp only [Bool.false_eq_true, if_false] at h1; have h2 := HXO.out.2.2.1; omega, by have h1 := h.2.2.2.2; simpa using h1⟩
        have HA2 : Hid (Y.ah ≠ [] → ∀ a, a1 = some a → w.heap.size < a.block) := by show _ → _; rw [HY.out.2.1]; exact HAH.out
        have HAP2 : Hid (Y.ah ≠ [] → ∀ a b, a1 = some a → p1 = some b → a.block ≠ b.block) := by show _ → _; rw [HY.out.2.1]; exact HAP.out
        have hbb := HLL.out
        have hkk := HLT.out
        go_wp2
        go_roundw
        case rel => exact ⟨k + 1, false, Y, a1, c1, p1, d1, HLT.out, by go_num, rfl, by show _ = cnRd p (decide (k + 1 = 0)) Y false _; rw [decide_eq_false (by omega)]; exact HRN2.out, HX2.out, HJY, HA2, HAP2, HRY, HBY⟩
        case measure => have := HLT.out; simp [intOf]; omega
      · have HRN2 : Hid (cnRd p true cn0 true l = cnRd p false (cnAdd Y Z.l) true (l.drop (k + 1))) := HRN.out
        have h := HTN.out
        have hao : AddOk ⟨Y.fr, Y.c, [], Y.ps⟩ Z.l := h.2.2.2.1 rfl
        have hyk : CnOk Y := h.2.2.1
        have HX2 : Hid (CnOk (cnAdd Y Z.l) ∧ (k + 1 = 0 → cnAdd Y Z.l = cn0) ∧ (cnAdd Y Z.l).ps.length ≤ 10922 * (k + 1) ∧ (cnAdd Y Z.l).ah.length ≤ 11000) := by
          refine ⟨h.1, fun h => by omega, ?_, h.2.2.2.2⟩
          have h1 := h.2.1
          have h2 := HXO.out.2.2.1
          show (cnAdd Y Z.l).ps.length ≤ _
          have h1 : (cnAdd Y Z.l).ps.length ≤ X.ps.length + 10922 := h1
          omega
        have HAD := Lib.hid (add_j w.heap.size (w.heap.size + 1) [w.heap.size, w.heap.size + 1] Y Z.l a1 c1 p1 d1 o12 cp12 wx HJY.out (by simp) HBY.out.size ⟨hyk.n, by have := hyk.o; simp; omega, (fun i hi => by cases hi), hyk.ps⟩ hao HRX.out (by have := HSG.out.2.1; omega) (by rw [HY.out.2.2]; have h2 := HXO.out.2.2.1; have := HLL.out; have := HLT.out; omega) fun _ a e hs => by
          have h3 := HRC13.out.2 a e
          have h4 := HZ13.out.1
          have h5 := HPB.out
          rcases hs with hs | ⟨a', e', hs⟩
          · omega
          · have := h5.1 a' e'; omega)
        clear h hao hyk
        go_wp2_with fail
        refine HAD.out.mono ?_
        rintro R w16 ⟨rfl, a2, c2, p2, d2, hj2, ha2, hp2, hap2, ht2⟩
        have HJ2 := Lib.hid hj2
        have HAP2 := Lib.hid hap2
        have HA2 : Hid ((cnAdd Y Z.l).ah ≠ [] → ∀ a, a2 = some a → w.heap.size < a.block) := fun h0 a e => by have h1 := ha2 h0 a e; have h2 := HRY.out.lt; omega
        have hnr : ¬ AdS (w.heap.size + 1) p1 w.heap.size := fun hs => by
          rcases hs with hs | ⟨a', e', hs⟩
          · omega
          · exact (HJY.out.r.blk e').2.2 w.heap.size (by simp) hs.symm
        have HR2 := Lib.hid (Cells.tu HRY.out ht2 hnr)
        have HB2 := Lib.hid (HBY.out.trans (ht2.below (fun x hx hs => by
          rcases hs with hs | ⟨a', e', hs⟩
          · omega
          · have := (HJY.out.r.blk e').1; omega) HBY.out.size))
        clear hj2 ha2 hp2 hap2 ht2 hnr HAD
        have hbb := HLL.out
        have hkk := HLT.out
        go_wp2
        go_roundw
        case rel => exact ⟨k + 1, true, cnAdd Y Z.l, a2, c2, p2, d2, HLT.out, by go_num, rfl, by show _ = cnRd p (decide (k + 1 = 0)) _ true _; rw [decide_eq_false (by omega)]; exact HRN2.out, HX2.out, HJ2, HA2, HAP2, HR2, HB2⟩
        case measure => have := HLT.out; simp [intOf]; omega
    · obtain rfl : k = l.length := by omega
      have l6 : (ldT 133 (.pointer (some ⟨w.heap.size + 1, 0, none⟩))).run Tryz.prog wr = .ok (.agg (cts X a1 c1 p1 d1)) wr := run_ldA ty_jcont HC.out.c.blk 0 (Nat.le_of_ble_eq_true rfl)
      obtain ⟨w2, s2, c2, q2, z2⟩ := cells_stA ty_jcont HR.out 0 (cts X a1 c1 p1 d1) (Nat.le_of_ble_eq_true rfl) rfl rfl (cs' := cts X a1 c1 p1 d1) rfl
      have k2 : Tu (fun y => y = w.heap.size) wr w2 := Tu.of_same q2
      have HC2 := Lib.hid c2
      have hne : ∀ a, p1 = some a → a.block ≠ w.heap.size := fun a e h => (HC.out.r.blk e).2.2 w.heap.size (by simp) h.symm
      have HFin : Hid (Q (.returned (.tuple #[.agg (cts X a1 c1 p1 d1), .int .i64 0])) w2) := by
        show Q _ _
        rw [HQ.out, HRQ.out, List.drop_length, rd_nil]
        refine ⟨a1, c1, p1, d1, rfl, HC.out.c.ins.tu k2 fun h0 a e h => ?_, HC.out.c.prs.tu k2 fun _ a e => hne a e, HC.out.c.ic, HC.out.c.pc, fun a e h0 => ⟨Nat.le_of_lt (HAH.out h0 a e), Nat.lt_of_lt_of_le (HC.out.c.ins.lt h0 a e) q2.size⟩, fun a e h0 => ⟨(HC.out.r.blk e).1, Nat.lt_of_lt_of_le (HC.out.r.blk e).2.1 q2.size⟩, HAP.out, HB.out.trans (grown_nb q2 (fun y e => by cases e; exact Nat.le_refl _) HB.out.size)⟩
        have hh := HAH.out h0 a e
        omega
      clear c2 q2 z2 k2 hne
      go_wp2
      refine bodyPost_ret (shut_mans _ 0 _ Tryz.results125 ty_jcont HC2.out rfl rfl rfl) rfl ?_
      exact HFin.out
end Go.Proofs.YtgeaacabpnepmaaGreatDoor
