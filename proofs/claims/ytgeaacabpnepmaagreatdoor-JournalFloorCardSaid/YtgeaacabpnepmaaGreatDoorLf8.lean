/- Texts of the walk. -/
import Derived.Test.YtgeaacabpnepmaaGreatDoorLb8
import Derived.BigFrame
import Derived.Test.YtgeaacabpnepmaaGreatDoorKe8
import Derived.Laws.AppendOwnNone
/- What segments say, in a block; the floor. -/
namespace Go.Proofs.YtgeaacabpnepmaaGreatDoor
open Go.RowKit
set_option linter.unusedVariables false
set_option linter.unusedSimpArgs false
set_option maxRecDepth 20000

def cts (x : Cn) (ao : Option Addr) (ac : Nat) (po : Option Addr) (pc : Nat) : Array Value := #[.int .u64 (x.c : Int), .slice ao x.ah.length ac, .int .u64 (x.fr : Int), .slice po x.ps.length pc]
structure JCt (w : World) (g : Nat) (x : Cn) (ao : Option Addr) (ac : Nat) (po : Option Addr) (pc : Nat) : Prop where
  blk : Cells w g 133 (cts x ao ac po pc)
  ins : InAt w ao x.ah
  prs : PrAt w po x.ps
  ic : x.ah.length ≤ ac ∧ ac ≤ maxLen
  pc : x.ps.length ≤ pc ∧ pc ≤ maxLen
  ia : ∀ a, ao = some a → x.ah ≠ [] → a.block ≠ g
  pa : ∀ a, po = some a → x.ps ≠ [] → a.block ≠ g
theorem PrAt.drop {w : World} {b o : Nat} {l : List (Nat × Nat)} (h : PrAt w (some ⟨b, o, none⟩) l) (k : Nat) : PrAt w (some ⟨b, o + k * 2, none⟩) (l.drop k) := fun i hi => by
  rw [List.length_drop] at hi
  obtain ⟨b', o', e, h1, h2⟩ := h (k + i) (by omega)
  cases e
  rw [List.getElem_drop]
  exact ⟨b, o + k * 2, rfl, by rw [show o + k * 2 + i * 2 = o + (k + i) * 2 by omega]; exact h1, by rw [show o + k * 2 + i * 2 + 1 = o + (k + i) * 2 + 1 by omega]; exact h2⟩
theorem PrAt.ptr {w : World} {po : Option Addr} {l : List (Nat × Nat)} (h : PrAt w po l) (h0 : l ≠ []) : ∃ b o, po = some ⟨b, o, none⟩ := by
  obtain ⟨b, o, e, _⟩ := h 0 (List.length_pos_iff.2 h0)
  exact ⟨b, o, e⟩
theorem nsAt_get {w : World} {co : Option Addr} {l : List Nat} (h : NsAt w co l) {k : Nat} (hk : k < l.length) : ∃ b o, co = some ⟨b, o, none⟩ ∧ w.cell? ⟨b, o + k, none⟩ = some (.int .u64 ((l[k]'hk : Nat) : Int)) := by
  obtain ⟨b, o, e, hc⟩ := h k hk
  exact ⟨b, o, e, by have := hc 0 _ rfl; rwa [show o + k * 1 + 0 = o + k by omega] at this⟩
theorem JCt.to {w w1 : World} {g : Nat} {x : Cn} {ao po : Option Addr} {ac pc : Nat} (h : JCt w g x ao ac po pc) (hb : Below w.heap.size w w1) : JCt w1 g x ao ac po pc := ⟨cells_new h.blk hb, h.ins.to hb, h.prs.to hb, h.ic, h.pc, h.ia, h.pa⟩
def LvPost (w : World) (g : Nat) (x : Cn) (ao : Option Addr) (ac : Nat) (p0 : Option Addr) (R : Ending) (w' : World) : Prop := R = .returned (.tuple #[]) ∧ ∃ po pc, JCt w' g x ao ac po pc ∧ w.grownBy w' (some g) ∧ ∀ a, po = some a → ∃ b, p0 = some b ∧ b.block = a.block
attribute [local go_sem ↓] ld_u64 st_u64 ld_prs st_prs
set_option maxHeartbeats 4000000 in
theorem leave_c (g : Nat) (x : Cn) (ck : List Nat) (ao : Option Addr) (ac : Nat) (po : Option Addr) (pc : Nat) (co : Option Addr) (cc : Nat) (w : World) (h : JCt w g x ao ac po pc) (hx : CnOk x) (hck : NsAt w co ck) (hcf : ckFit ck) (hcl : ck.length ≤ 400) :
    Calls Tryz.prog 79 #[.pointer (some ⟨g, 0, none⟩), .slice co ck.length cc] w (LvPost w g (cnOut ck x) ao ac po) := by
  have l1 := fun k => run_ldO (w := w.drewN k) ty_u64 h.blk 0 (v := .int .u64 (x.c : Int)) rfl
  have l2 := fun k => run_ldO (w := w.drewN k) ty_u64 h.blk 2 (v := .int .u64 (x.fr : Int)) rfl
  have l10 := run_ldO ty_u64 h.blk 0 (v := .int .u64 (x.c : Int)) rfl
  have HH := Lib.hid h
  have HX := Lib.hid hx
  have HCF := Lib.hid hcf
  obtain ⟨Q, hQ⟩ : ∃ Q : Ending → World → Prop, Q = LvPost w g (cnOut ck x) ao ac po := ⟨_, rfl⟩
  rw [← hQ]
  have HQ := Lib.hid hQ
  have HSame : Hid (cnOut ck x = x → ∀ k, Q (.returned (.tuple #[])) (w.drewN k)) := fun e k => by
    rw [HQ.out, e]
    exact ⟨rfl, po, pc, HH.out.to (below_drewN (Below.refl _ w) k), grown_of_below (below_drewN (Below.refl _ w) k), fun a e => ⟨a, e, rfl⟩⟩
  clear h hx hcf hQ
  by_cases h2 : ck.length < 2
  · have hl : (ck.length : Int) < 2 := by omega
    have HF := Lib.hid (HSame.out (if_pos (.inl h2)) 0)
    clear h2
    go_enter Tryz.func79, Tryz.ntmps79
    go_wp2
    first | exact HF.out | (refine bodyPost_ret (results_none rfl _ _ _) rfl ?_; exact HF.out)
  · have hl : ¬ (ck.length : Int) < 2 := by omega
    by_cases h12 : x.c < 12
    · have hl2 : (x.c : Int) < 12 := by omega
      have HF := Lib.hid (HSame.out (if_pos (.inr h12)) 0)
      clear h12 h2
      go_enter Tryz.func79, Tryz.ntmps79
      go_wp2
      first | exact HF.out | (refine bodyPost_ret (results_none rfl _ _ _) rfl ?_; exact HF.out)
    · have hl2 : ¬ (x.c : Int) < 12 := by omega
      obtain ⟨b, o, hco, hc⟩ := nsAt_get hck (show 1 < ck.length by omega)
      subst hco
      have l3 := fun k => run_ldC (w := w.drewN k) ty_u64 hc
      obtain ⟨c1, hc1⟩ : ∃ c1, c1 = ck[1]'(by omega) := ⟨_, rfl⟩
      have hcm : c1 ∈ ck := by rw [hc1]; exact List.getElem_mem _
      have hcb := HCF.out c1 hcm
      have hn := HX.out.n
      have ho := HX.out.o
      have hd : ck.getD 1 0 = c1 := by rw [hc1, List.getD_eq_getElem?_getD, List.getElem?_eq_getElem (by omega)]; rfl
      rw [← hc1] at l3
      have e1 : IntKind.u64.wrap ((x.c : Int) - 12) = ((x.c - 12 : Nat) : Int) := by rw [IntWalk.u64_in _ (by omega)]; omega
      obtain ⟨fl, hfl⟩ : ∃ fl, fl = min c1 (x.c - 12) := ⟨_, rfl⟩
      have HFL := Lib.hid hfl
      have hxo : cnOut ck x = if x.fr < fl then ⟨fl, x.c, x.ah, x.ps.drop (fl - x.fr)⟩ else x := by
        unfold cnOut
        rw [if_neg (by omega), hd, ← hfl]
      have HXO := Lib.hid hxo
      have hmn : min (c1 : Int) ((x.c - 12 : Nat) : Int) = (fl : Int) := by omega
      have hnl : ck.length ≠ 0 ∧ (1 : Int) < (ck.length : Int) := by omega
      have hll := hnl.2
      clear hcm hc1 hfl hxo hd hc hnl
      go_enter Tryz.func79, Tryz.ntmps79
      go_upto_region 1 with fail
      refine wp_region_still_tail 9 (by kernel_rfl) (by kernel_rfl) ?_
      simp only [List.take_succ_cons, List.take_zero, List.drop_succ_cons, List.drop_zero]
      have hwd : ({ w with drawn := w.drawn + 1 } : World) = w.drewN 1 := rfl
      rw [hwd]
      have l11 := l1 1
      have l12 := l2 1
      have l13 := l3 1
      clear hwd
      repeat still_step
      refine wpStill_nil ?_
      by_cases hlt : x.fr < fl
      case neg =>
        have hgt : ¬ (x.fr : Int) < (fl : Int) := by omega
        have HF := Lib.hid (HSame.out (by rw [HXO.out, if_neg hlt]) 1)
        clear hlt
        go_wp2
        go_end0
        exact HF.out
      case pos =>
        have hgt : (x.fr : Int) < (fl : Int) := by omega
        obtain ⟨pb, pk, hpo⟩ := HH.out.prs.ptr (fun e => by rw [e] at hn; have := HFL.out; simp at hn; omega)
        subst hpo
        have hfle := HFL.out
        have hpc := HH.out.pc
        have hmx : maxLen = 9223372036854775807 := by simp [maxLen]
        obtain ⟨k, hk⟩ : ∃ k, k = fl - x.fr := ⟨_, rfl⟩
        have e2 : IntKind.u64.wrap ((fl : Int) - (x.fr : Int)) = (k : Int) := by rw [IntWalk.u64_in _ (by omega)]; omega
        have i1 : (k : Int) ≤ (x.ps.length : Int) := by omega
        have i2 : (k : Int) ≤ (pc : Int) := by omega
        have i3 : IntKind.i64.wrap ((x.ps.length : Int) - (k : Int)) = ((x.ps.length - k : Nat) : Int) := by rw [IntWalk.i64_in _ (by omega)]; omega
        have i4 : IntKind.i64.wrap ((pc : Int) - (k : Int)) = ((pc - k : Nat) : Int) := by rw [IntWalk.i64_in _ (by omega)]; omega
        have hnac : (x.ps.length : Int) ≤ (pc : Int) := by omega
        have hkl : (x.ps.drop k).length = x.ps.length - k := List.length_drop
        have l42 := run_ldO (w := w.drewN 2) ty_prs HH.out.blk 3 (v := .slice (some ⟨pb, pk, none⟩) x.ps.length pc) rfl
        have l22 := l2 2
        have main : Hid (∀ (po' : Option Addr) (m1 m2 : Nat), x.ps.length - k = m1 → pc - k = m2 → ((pc = k ∧ po' = some ⟨pb, pk, none⟩) ∨ (pc ≠ k ∧ po' = some ⟨pb, pk + k * 2, none⟩)) → ∃ w3 w4, (stT 46 (.pointer (some ⟨g, 3, none⟩)) (.slice po' m1 m2)).run Tryz.prog (w.drewN 2) = .ok () w3 ∧ (stT 37 (.pointer (some ⟨g, 2, none⟩)) (.int .u64 (fl : Int))).run Tryz.prog w3 = .ok () w4 ∧ Q (.returned (.tuple #[])) w4) := fun po' m1 m2 hm1 hm2 hp => by
          subst hm1 hm2
          have hd2 := HH.out.to (below_drewN (Below.refl w.heap.size w) 2)
          obtain ⟨w3, s3, c3, q3, z3⟩ := cells_st ty_prs hd2.blk 3 (Nat.le_of_ble_eq_true rfl) (.slice po' (x.ps.length - k) (pc - k)) rfl rfl rfl
          obtain ⟨w4, s4, c4, q4, z4⟩ := cells_st ty_u64 c3 2 (Nat.le_of_ble_eq_true rfl) (.int .u64 (fl : Int)) rfl rfl rfl
          refine ⟨w3, w4, s3, s4, ?_⟩
          have kt : Tu (fun y => y = g) (w.drewN 2) w4 := Tu.of_same (q3.trans q4)
          rw [HQ.out, HXO.out, if_pos hlt, ← hk]
          refine ⟨rfl, po', pc - k, ⟨?_, hd2.ins.tu kt fun h0 a e => HH.out.ia a e h0, ?_, HH.out.ic, ?_, HH.out.ia, ?_⟩, (grown_of_below (below_drewN (Below.refl _ w) 2)).trans (q3.trans q4), fun a e => ⟨_, rfl, by rcases hp with ⟨_, h2⟩ | ⟨_, h2⟩ <;> (rw [h2] at e; cases e; rfl)⟩⟩
          · have e5 : cts ⟨fl, x.c, x.ah, x.ps.drop k⟩ ao ac po' (pc - k) = #[.int .u64 (x.c : Int), .slice ao x.ah.length ac, .int .u64 (fl : Int), .slice po' (x.ps.length - k) (pc - k)] := by simp only [cts, hkl]
            rw [e5]; exact c4
          · rcases hp with ⟨h1, h2⟩ | ⟨h1, h2⟩
            · show PrAt w4 po' (x.ps.drop k)
              rw [List.drop_of_length_le (by omega)]; exact PrAt.nil _ _
            · rw [h2]
              exact (HH.out.prs.drop k).tu (S := fun y => y = g) ((Tu.new (below_drewN (Below.refl _ w) 2)).trans kt fun _ _ h => h) fun h0 a e h => by
                cases e
                exact HH.out.pa ⟨pb, pk, none⟩ rfl (fun e0 => h0 (by rw [e0]; simp)) h
          · show (x.ps.drop k).length ≤ pc - k ∧ pc - k ≤ maxLen
            rw [hkl]; omega
          · intro a e h0
            rcases hp with ⟨h1, h2⟩ | ⟨h1, h2⟩
            · exact absurd (List.drop_of_length_le (by omega)) h0
            · rw [h2] at e; cases e
              exact HH.out.pa ⟨pb, pk, none⟩ rfl (fun e0 => h0 (by show x.ps.drop k = []; rw [e0]; simp))
        clear hk hfle hpc hmx hkl hn ho hlt
        go_upto_region 3 with fail
        clear l11 l12 l13
        refine wp_region_still_tail 12 (by kernel_rfl) (by kernel_rfl) ?_
        simp only [List.take_succ_cons, List.take_zero, List.drop_succ_cons, List.drop_zero]
        have hwd : ({ (w.drewN 1) with drawn := (w.drewN 1).drawn + 1 } : World) = w.drewN 2 := rfl
        rw [hwd]
        clear hwd
        by_cases hpk : pc = k
        · have hpk2 : (pc : Int) = (k : Int) := by omega
          have hps : x.ps.length = k := by omega
          obtain ⟨w3, w4, s3, s4, hq⟩ := main.out _ 0 0 (by omega) (by omega) (.inl ⟨hpk, rfl⟩)
          have HF := Lib.hid hq
          rw [hps] at l42 i1 hnac
          have j3 : IntKind.i64.wrap ((k : Int) - (k : Int)) = 0 := by rw [IntWalk.i64_in _ (by omega)]; omega
          clear hq main hpk2 i3 i4 hps
          subst hpk
          repeat still_step
          refine wpStill_nil ?_
          go_wp2
          go_end0
          exact HF.out
        · have hpk2 : ¬ (pc : Int) = (k : Int) := by omega
          obtain ⟨w3, w4, s3, s4, hq⟩ := main.out _ _ _ rfl rfl (.inr ⟨hpk, rfl⟩)
          have HF := Lib.hid hq
          clear hq main
          repeat still_step
          refine wpStill_nil ?_
          go_wp2
          go_end0
          exact HF.out
end Go.Proofs.YtgeaacabpnepmaaGreatDoor
/- Small functions of an opening. -/
namespace Go.Proofs.YtgeaacabpnepmaaGreatDoor
open Go.RowKit
set_option linter.unusedVariables false
set_option linter.unusedSimpArgs false
set_option maxRecDepth 20000

section
variable {V : Nat → Prop} {w w1 : World} {gj gp q kc : Nat} {dv : Value} {ko : Option Addr} {p : Pw} {j : Jn} {so co ao : Option Addr} {sc cc ac : Nat} {m : Mf}
attribute [local go_sem ↓] ld_pw ld_man ld_u64
theorem fresh_c (w : World) : Calls Tryz.prog 82 #[.agg (mcs m so sc co cc)] w fun R w' => R = .returned (.bool (decide (m.ep = 0))) ∧ Below w.heap.size w w' := by
  have H0 := Loc.one w 60 (mcs m so sc co cc)
  have l0 := H0.ldO ty_u64 0 rfl 0 (v := .int .u64 (m.ep : Int)) rfl
  have HB := Lib.hid H0.be
  have hq : ((m.ep : Int) == 0) = decide (m.ep = 0) := by by_cases h : m.ep = 0 <;> simp [h]
  clear H0
  go_enter Tryz.func82, Tryz.ntmps82
  go_upto_region 1 with fail
  generalize w.alloc (.cells (mcs m so sc co cc) 60) = wa at *
  go_wp2
  go_ret
  exact ⟨rfl, HB.out⟩
end
end Go.Proofs.YtgeaacabpnepmaaGreatDoor
/- A disk's manifest, for an opening. -/
namespace Go.Proofs.YtgeaacabpnepmaaGreatDoor
open Go.RowKit
set_option linter.unusedVariables false
set_option linter.unusedSimpArgs false
set_option maxRecDepth 20000

theorem shut_mans {W : World} {g a b : Nat} {cs : Array Value} {T : TypeId} (tmps : Array Value) (e : Int) (fn : Func) (hr : fn.results = #[.cell a T, .tmp b]) (ty : TyA T 4) (h : Cells W g T cs) (hs : cs.size = 4) (h2 : tmps.getD a undef = .pointer (some ⟨g, 0, none⟩)) (h3 : tmps.getD b undef = .int .i64 e) :
    (results fn tmps).run Tryz.prog W = .ok (.tuple #[.agg cs, .int .i64 e]) W := by
  have hl := run_ldA ty h 0 (by omega)
  have he : ((cs.toList.drop 0).take 4).toArray = cs := by simp [List.take_of_length_le, hs]
  rw [he] at hl
  have h2' : tmps[a]?.getD undef = .pointer (some ⟨g, 0, none⟩) := by simpa using h2
  have h3' : tmps[b]?.getD undef = .int .i64 e := by simpa using h3
  have hl' : (loadVar T ⟨g, 0, none⟩).run Tryz.prog W = .ok (.agg cs) W := by simpa [ldT, Instr.loadAt, Instr.sureAddr] using hl
  simp [results, hr, h2', h3', asAddr, hl']
attribute [local go_sem ↓] ld_man st_man ld_u64 ld_u8
set_option maxHeartbeats 4000000 in
theorem jload_c {S : Nat → Prop} {g q : Nat} {dv : Value} {kc : Nat} {ko : Option Addr} {p : Pw} (pl : Nat) (w : World) (h : PwC S w g dv q ko kc p) (ht : Tab w) :
    Calls Tryz.prog 124 #[.pointer (some ⟨g, 0, none⟩), .int .u8 (pl : Int)] w (ManPost w (jlM p pl) (jlE p pl)) := by
  have H0 := Loc.one w 60 (mcs mz none 0 none 0)
  have HP := Lib.hid (h.new H0.be)
  have HT := Lib.hid (tab_below ht H0.be)
  have hE : jlE p pl = if ldC p = 5 then 0 else if ldC p = 0 then (if (ldM p).pl = pl then (if (ldM p).ep = 18446744073709551615 then 7 else 0) else 14) else ldC p := rfl
  have hM : jlM p pl = if ldC p = 0 ∧ (ldM p).pl = pl ∧ (ldM p).ep ≠ 18446744073709551615 then ldM p else mz := rfl
  have HE := Lib.hid hE
  have HMM := Lib.hid hM
  obtain ⟨Q, hQ⟩ : ∃ Q, Q = ManPost w (jlM p pl) (jlE p pl) := ⟨_, rfl⟩
  rw [← hQ]
  have HQ := Lib.hid hQ
  clear hQ h ht hE hM
  go_enter Tryz.func124, Tryz.ntmps124
  go_upto_region 1 with fail
  rw [show (#[.int .u64 0, .int .u8 0, .slice none 0 0, .slice none 0 0] : Array Value) = mcs mz none 0 none 0 from rfl]
  generalize w.alloc (.cells (mcs mz none 0 none 0) 60) = wa at *
  go_wp2_with fail
  refine (load_c wa HP.out HT.out).mono ?_
  rintro R w1 ⟨so, sc, co, cc, rfl, hm1, hb1, hn1, hn2, hn3⟩
  obtain ⟨c, hc⟩ : ∃ c, c = ldC p := ⟨_, rfl⟩
  obtain ⟨m, hm⟩ : ∃ m, m = ldM p := ⟨_, rfl⟩
  rw [← hc] at HE HMM ⊢
  rw [← hm] at HE HMM hm1 ⊢
  clear hc hm
  have hz := H0.size
  obtain ⟨g4, w2, z2, s2, H2, q2⟩ := (H0.to hb1).newA ty_man #[.int .u64 0, .int .u8 0, .slice none 0 0, .slice none 0 0] (mcs m so sc co cc) rfl rfl rfl
  replace H2 : Loc w.heap.size w w2 [(w.heap.size, 60, mcs mz none 0 none 0), (g4, 60, mcs m so sc co cc)] := H2
  have l1 := H2.ldO ty_u8 1 rfl 1 (v := .int .u8 (m.pl : Int)) rfl
  have l2 := H2.ldO ty_u64 1 rfl 0 (v := .int .u64 (m.ep : Int)) rfl
  have l3 : (ldT 60 (.pointer (some ⟨g4, 0, none⟩))).run Tryz.prog w2 = .ok (.agg (mcs m so sc co cc)) w2 := H2.ldA ty_man 1 rfl 0 rfl (Nat.le_of_ble_eq_true rfl)
  obtain ⟨w3, s3, H3, _⟩ := H2.stA ty_man 0 rfl 0 #[.int .u64 0, .int .u8 0, .slice none 0 0, .slice none 0 0] (cs' := mcs mz none 0 none 0) rfl (L' := [(w.heap.size, 60, mcs mz none 0 none 0), (g4, 60, mcs m so sc co cc)]) rfl (Nat.le_of_ble_eq_true rfl) rfl rfl
  obtain ⟨w4, s4, H4, q4⟩ := H2.stA ty_man 0 rfl 0 (mcs m so sc co cc) (cs' := mcs m so sc co cc) rfl (L' := [(w.heap.size, 60, mcs m so sc co cc), (g4, 60, mcs m so sc co cc)]) rfl (Nat.le_of_ble_eq_true rfl) rfl rfl
  have HNo : Hid (∀ e : Int, jlM p pl = mz → jlE p pl = e → Q (.returned (.tuple #[.agg (mcs mz none 0 none 0), .int .i64 e])) w3) := fun e h1 h2 => by
    rw [HQ.out, h1, h2]; exact man_none H3.be e
  have HYes : Hid (jlM p pl = m → jlE p pl = 0 → Q (.returned (.tuple #[.agg (mcs m so sc co cc), .int .i64 0])) w4) := fun h1 h2 => by
    have k4 : Tu (fun x => x = w.heap.size) w2 w4 := Tu.of_same q4
    have hlt : w.heap.size < wa.heap.size := H0.low (e := (w.heap.size, 60, mcs mz none 0 none 0)) (by simp)
    have hm2 := hm1.to (below_of_grown q2)
    rw [HQ.out, h1, h2]
    exact ⟨so, sc, co, cc, rfl, ⟨hm2.fit, hm2.ps.tuS k4 fun _ a e h => by have := hn1 a e; omega, hm2.ns.tuS k4 fun _ a e h => by have := hn2 a e; omega, hm2.l1, hm2.l2⟩, H4.be, fun a e => by have := hn1 a e; omega, fun a e => by have := hn2 a e; omega, hn3⟩
  have H3' := Lib.hid H3
  have H4' := Lib.hid H4
  clear hm1 hb1 hn1 hn2 hn3 H0 H2 q2 H3 H4 q4 hz
  by_cases c5 : c = 5
  · have hq : (c == 5) = true := beq_iff_eq.2 c5
    have HF := Lib.hid (HNo.out 0 (by rw [HMM.out, if_neg (by rw [c5]; simp)]) (by rw [HE.out, if_pos c5]))
    clear c5
    go_wp2
    refine bodyPost_ret (shut_mans _ 0 _ Tryz.results124 ty_man (H3'.out.get 0 rfl) rfl rfl rfl) rfl ?_
    exact HF.out
  · have hq : (c == 5) = false := beq_eq_false_iff_ne.2 c5
    by_cases c0 : c = 0
    · have hq2 : (c != 0) = false := by rw [c0]; rfl
      by_cases hp : m.pl = pl
      · have hq3 : ((m.pl : Int) != (pl : Int)) = false := by rw [hp]; simp
        by_cases he : m.ep = 18446744073709551615
        · have hq4 : ((m.ep : Int) == 18446744073709551615) = true := by rw [he]; rfl
          have HF := Lib.hid (HNo.out 7 (by rw [HMM.out, if_neg (fun h => h.2.2 he)]) (by rw [HE.out, if_neg c5, if_pos c0, if_pos hp, if_pos he]))
          clear c5 c0 hp he
          go_wp2
          refine bodyPost_ret (shut_mans _ 7 _ Tryz.results124 ty_man (H3'.out.get 0 rfl) rfl rfl rfl) rfl ?_
          exact HF.out
        · have hq4 : ((m.ep : Int) == 18446744073709551615) = false := beq_eq_false_iff_ne.2 (by omega)
          have HF := Lib.hid (HYes.out (by rw [HMM.out, if_pos ⟨c0, hp, he⟩]) (by rw [HE.out, if_neg c5, if_pos c0, if_pos hp, if_neg he]))
          clear c5 c0 hp he
          go_wp2
          refine bodyPost_ret (shut_mans _ 0 _ Tryz.results124 ty_man (H4'.out.get 0 rfl) rfl rfl rfl) rfl ?_
          exact HF.out
      · have hq3 : ((m.pl : Int) != (pl : Int)) = true := by rw [bne_iff_ne]; omega
        have HF := Lib.hid (HNo.out 14 (by rw [HMM.out, if_neg (fun h => hp h.2.1)]) (by rw [HE.out, if_neg c5, if_pos c0, if_neg hp]))
        clear c5 c0 hp
        go_wp2
        refine bodyPost_ret (shut_mans _ 14 _ Tryz.results124 ty_man (H3'.out.get 0 rfl) rfl rfl rfl) rfl ?_
        exact HF.out
    · have hq2 : (c != 0) = true := by rw [bne_iff_ne]; exact c0
      have HF := Lib.hid (HNo.out c (by rw [HMM.out, if_neg (fun h => c0 h.1)]) (by rw [HE.out, if_neg c5, if_neg c0]))
      clear c5 c0
      go_wp2
      refine bodyPost_ret (shut_mans _ c _ Tryz.results124 ty_man (H3'.out.get 0 rfl) rfl rfl rfl) rfl ?_
      exact HF.out
end Go.Proofs.YtgeaacabpnepmaaGreatDoor
/- Records and pairs, several at once, in rows of one's own. -/
namespace Go.Proofs.YtgeaacabpnepmaaGreatDoor
open Go.RowKit
set_option linter.unusedVariables false
set_option linter.unusedSimpArgs false
set_option maxRecDepth 20000

theorem rcs_news {w : World} {b o : Nat} {l : List Rc} (h : RcsAt w (some ⟨b, o, none⟩) l) : ∀ j u, (Rall l)[j]? = some u → w.cell? ((⟨b, o, none⟩ : Addr).add j) = some u := fun j u hu => by
  have hj : j < (Rall l).length := (List.getElem?_eq_some_iff.1 hu).1
  rw [Rall_len] at hj
  have hk : j / 9 < l.length := by omega
  have hi : j % 9 < (rcs (l[j / 9]'hk)).size := by rw [rcs_size]; exact Nat.mod_lt _ (by decide)
  have hv := Array.getElem?_eq_getElem hi
  have h1 := Rall_at l (j / 9) (j % 9) hk _ hv
  rw [show j / 9 * 9 + j % 9 = j by omega, hu] at h1
  obtain ⟨b', o', e, hc⟩ := h (j / 9) hk
  cases e
  have hj2 : o + j / 9 * 9 + j % 9 = o + j := by omega
  rw [show (⟨b, o, none⟩ : Addr).add j = ⟨b, o + j / 9 * 9 + j % 9, none⟩ from by rw [hj2]; simp [Addr.add]]
  rw [h1]
  exact hc _ _ hv
theorem Rall_ones (l : List Rc) : ∀ u ∈ Rall l, u.oneCell' = true := by
  intro u hu
  obtain ⟨x, hx, hu⟩ := List.mem_flatten.1 hu
  obtain ⟨r, _, rfl⟩ := List.mem_map.1 hx
  exact rcs_one r u hu
theorem Rall_app (l m : List Rc) : Rall (l ++ m) = Rall l ++ Rall m := by simp [Rall]
theorem RcsAt.ptr {w : World} {ao : Option Addr} {l : List Rc} (h : RcsAt w ao l) (h0 : l ≠ []) : ∃ b o, ao = some ⟨b, o, none⟩ := by
  obtain ⟨b, o, e, _⟩ := h 0 (List.length_pos_iff.2 h0)
  exact ⟨b, o, e⟩
section
variable {T TS : TypeId} {B B0 : Nat} {w0 w w' : World} {L L' : List (Nat × TypeId × Array Value)} {bs : List Nat} {ao : Option Addr} {n cap : Nat} {l : List Rc}
theorem app_recL {o : Oper} {a : Act} {K : Act → World → Prop} {Q : Exit → Act → World → Prop} (hu : Tryz.prog.underlying TS = some (.slice T)) (hi : (Tryz.prog.info? T).map (fun i => (i.zero, i.size, i.bytes)) = some (some (.agg (rcs rz)), 9, 56)) (s x : Operand)
    (ho : o.op = .call { callee := .builtin .append, args := #[s, x], argTypes := #[TS, TS] }) (hs : a.eval s = .slice ao n cap) (rs : List Rc) (m : Nat) (hm0 : rs.length = m) (hm1 : 0 < m) (hm2 : m ≤ 100) (hx : a.eval x = .slice (some ⟨w.heap.size, 0, none⟩) m m)
    (hR : Rcr T B w bs ao n cap l) (hL : Loc B0 w0 w L) (hB : B0 ≤ B) (hB2 : B ≤ w.heap.size) (hbs : ∀ e ∈ L, e.1 ∈ bs) (hn : n ≤ 1000000)
    (h : ∀ r' cap' w', Rcr T B w' bs (some ⟨r', 0, none⟩) (n + m) cap' (l ++ rs) → Loc B0 w0 w' L → K (a.put o.dst (.slice (some ⟨r', 0, none⟩) (n + m) cap')) w') :
    Oper.wp Tryz.prog o a (w.alloc (.cells (Rall rs).toArray T)) K Q := by
  obtain ⟨i0, hi0, hz0, hz1, hz2⟩ := info_parts hi
  have hal : w.grownBy (w.alloc (.cells (Rall rs).toArray T)) none := grown_alloc _ _
  have hR1 : Rcr T B (w.alloc (.cells (Rall rs).toArray T)) bs ao n cap l := hR.to (below_of_grown hal)
  have hL1 : Loc B0 w0 (w.alloc (.cells (Rall rs).toArray T)) L := hL.grown hal
  have hc : Cells (w.alloc (.cells (Rall rs).toArray T)) w.heap.size T (Rall rs).toArray := Cells.made w _ _
  refine wp_append_lies (w.alloc (.cells (Rall rs).toArray T)) s x TS ho B T i0 (.agg (rcs rz)) 9 56 hu hi0 hz0 hz1 hz2 rfl (by decide) (.slice ao n cap) n (Rall l) hs hR1.own ⟨w.heap.size, 0, none⟩ m m (Rall rs) hx (by rw [Rall_len, hm0]) (fun j u hu => ?_) (Rall_ones rs) hm1 (by simp only [maxLen]; omega) (by omega) (by have := hal.size; omega) _ rfl ?_
  · have hadd : (⟨w.heap.size, 0, none⟩ : Addr).add j = ⟨w.heap.size, j, none⟩ := by unfold Addr.add; split <;> simp_all
    rw [hadd, hc.cell]; simpa using hu
  · intro g' cap' w1 hown1 hgr hat hlt1
    rw [← Rall_app] at hown1
    refine h g' cap' w1 ⟨hown1, by simp [hR.len, hm0], fun b hb e => ?_, fun b hb => Nat.lt_of_lt_of_le (hR1.lo b hb) hgr.size⟩ (hL1.ownR hB hR1 hbs hgr)
    have e : g' = b := by simpa [Value.ownBlock] using e
    subst e
    rcases hat with hat | hat
    · exact hR.far g' hb hat
    · have h1 := hR1.lo g' hb
      omega
theorem step_append_recL {ops : Array Oper} {o : Oper} {a : Act} {K : Act → World → Prop} {E : Prop} {Q : Exit → Act → World → Prop} (hu : Tryz.prog.underlying TS = some (.slice T)) (hi : (Tryz.prog.info? T).map (fun i => (i.zero, i.size, i.bytes)) = some (some (.agg (rcs rz)), 9, 56)) (hgd : o.guard = none) (s x : Operand)
    (ho : o.op = .call { callee := .builtin .append, args := #[s, x], argTypes := #[TS, TS] }) (hs : a.eval s = .slice ao n cap) (rs : List Rc) (m : Nat) (hm0 : rs.length = m) (hm1 : 0 < m) (hm2 : m ≤ 100) (hx : a.eval x = .slice (some ⟨w.heap.size, 0, none⟩) m m)
    (hR : Rcr T B w bs ao n cap l) (hL : Loc B0 w0 w L) (hB : B0 ≤ B) (hB2 : B ≤ w.heap.size) (hbs : ∀ e ∈ L, e.1 ∈ bs) (hn : n ≤ 1000000)
    (h : ∀ r' cap' w', Rcr T B w' bs (some ⟨r', 0, none⟩) (n + m) cap' (l ++ rs) → Loc B0 w0 w' L → K (a.put o.dst (.slice (some ⟨r', 0, none⟩) (n + m) cap')) w') :
    if Region.wanted o (yielded ops a.tmps) = true then Oper.wp Tryz.prog o a (w.alloc (.cells (Rall rs).toArray T)) K Q else E := by
  have hw : Region.wanted o (yielded ops a.tmps) = true := by simp [Region.wanted, hgd]
  rw [if_pos hw]
  exact app_recL hu hi s x ho hs rs m hm0 hm1 hm2 hx hR hL hB hB2 hbs hn h
end
theorem bs_of2 {T TS : TypeId} (hu : Tryz.prog.underlying TS = some (.slice T)) (hi : (Tryz.prog.info? T).map (fun i => (i.zero, i.size, i.bytes)) = some (some (.agg (rcs rz)), 9, 56)) (r s : Rc) (w : World) :
    (Instr.buildSlice TS 2 #[(0, .agg (rcs r)), (1, .agg (rcs s))]).run Tryz.prog w = .ok (.slice (some ⟨w.heap.size, 0, none⟩) 2 2) (w.alloc (.cells (Rall [r, s]).toArray T)) := by
  obtain ⟨i0, hi0, hz0, hz1, hz2⟩ := info_parts hi
  have hf : Instr.fill (fun i => some (i * 9, 9)) ((Array.range (2 * 9)).map fun x => (rcs rz)[x % (rcs rz).size]!) [(0, Value.agg (rcs r)), (1, Value.agg (rcs s))] = some (Rall [r, s]).toArray := by
    have h0 : ((Array.range (2 * 9)).map fun x => (rcs rz)[x % (rcs rz).size]!) = (Rall [rz, rz]).toArray := by kernel_rfl
    rw [h0]
    simp [Instr.fill, rcs, Rall, Value.cells]
  simp [Instr.buildSlice, run_underlying hu, sizeOf, typeInfo, zeroValue, hi0, hz0, hz1, newRow, go_sem, Value.cells, Instr.fill] at hf ⊢
  obtain ⟨h1, ⟨h2, h3⟩, h4⟩ := hf
  rw [if_neg (by rw [rcs_size]; omega), if_neg (by rw [rcs_size] at h3 ⊢; omega), h4]
  simp [go_sem]
def bsM2 (TS : TypeId) (ps : Array (Nat × Value)) : Sem Value := Instr.buildSlice TS 2 ps
theorem bs_m2 (ps : Array (Nat × Value)) : Instr.buildSlice 127 2 ps = bsM2 127 ps := rfl
theorem bs_rec2 (r s : Rc) (w : World) : (bsM2 127 #[(0, .agg (rcs r)), (1, .agg (rcs s))]).run Tryz.prog w = .ok (.slice (some ⟨w.heap.size, 0, none⟩) 2 2) (w.alloc (.cells (Rall [r, s]).toArray 114)) := bs_of2 Tryz.underlying127 info_rec r s w

def qv (p : Nat × Nat) : List Value := [.int .u8 (p.1 : Int), .int .u8 (p.2 : Int)]
def Gql (l : List (Nat × Nat)) : List Value := (l.map qv).flatten
theorem Gql_len (l : List (Nat × Nat)) : (Gql l).length = l.length * 2 := by
  induction l with
  | nil => rfl
  | cons p l ih =>
    have e : Gql (p :: l) = qv p ++ Gql l := rfl
    rw [e, List.length_append, ih, List.length_cons]
    simp [qv]; omega
theorem Gql_snoc (l : List (Nat × Nat)) (p : Nat × Nat) : Gql (l ++ [p]) = Gql l ++ qv p := by simp [Gql]
theorem Gql_at : ∀ (l : List (Nat × Nat)) (j i : Nat) (hj : j < l.length) (v : Value), (qv (l[j]'hj))[i]? = some v → (Gql l)[j * 2 + i]? = some v
  | a :: r, 0, i, _, v, h => by
    have hi : i < 2 := by obtain ⟨hi, _⟩ := List.getElem?_eq_some_iff.1 h; simpa [qv] using hi
    have e : Gql (a :: r) = qv a ++ Gql r := rfl
    rw [e, List.getElem?_append_left (by simp [qv]; omega), Nat.zero_mul, Nat.zero_add]
    exact h
  | a :: r, j + 1, i, hj, v, h => by
    have ih := Gql_at r j i (by simpa using hj) v h
    have e : Gql (a :: r) = qv a ++ Gql r := rfl
    have hl : (qv a).length = 2 := rfl
    rw [e, List.getElem?_append_right (by rw [hl]; omega), hl, show (j + 1) * 2 + i - 2 = j * 2 + i by omega]
    exact ih
end Go.Proofs.YtgeaacabpnepmaaGreatDoor
