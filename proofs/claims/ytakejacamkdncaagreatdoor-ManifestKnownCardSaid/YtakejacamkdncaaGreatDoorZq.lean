/- Load, and what a disk's file tells, by the program: one contract each. -/
import Derived.Test.YtakejacamkdncaaGreatDoorZp
namespace Go.Proofs.YtakejacamkdncaaGreatDoor
open Go.RowKit
set_option linter.unusedVariables false
set_option linter.unusedSimpArgs false
set_option maxRecDepth 20000
attribute [local go_sem ↓] st_man
theorem rd_most {q : Nat} {E : List Ent} (h : DGood q E) (n : List UInt8) : (rd E n).length ≤ 65536 := by
  unfold rd
  split
  · split
    · rename_i f hf
      exact h.most f (fndK_some hf).1
    · simp
  · simp
theorem prd_most {S : Nat → Prop} {w : World} {g q kc : Nat} {dv : Value} {ko : Option Addr} {p : Pw} (h : PwC S w g dv q ko kc p) (n : List UInt8) : (p.rd n).length ≤ 65536 := by
  unfold Pw.rd
  split
  · simp
  · exact rd_most h.dk.good n
set_option maxHeartbeats 4000000 in
theorem load_c {S : Nat → Prop} {g q : Nat} {dv : Value} {kc : Nat} {ko : Option Addr} {p : Pw} (w : World) (h : PwC S w g dv q ko kc p) (ht : Tab w) :
    Calls Tryz.prog 15 #[.pointer (some ⟨g, 0, none⟩)] w (ManPost w (ldM p) (ldC p)) := by
  have H0 := Loc.one w 34 (mcs mz none 0 none 0)
  have HT := Lib.hid ht
  have HP := Lib.hid h
  have HL := Lib.hid (prd_most h nM)
  have HM : Hid (ldM p = if p.rdc nM = 0 then tkM (p.rd nM) else mz) := rfl
  have HC : Hid (ldC p = if p.rdc nM = 0 then tkE (p.rd nM) else (p.rdc nM : Nat)) := rfl
  have KR : Hid (∀ W, PwC S W g dv q ko kc p → Calls Tryz.prog 41 #[.pointer (some ⟨g, 0, none⟩), .string (str nM)] W fun R w' => R = .returned (.tuple #[.string (str (p.rd nM)), .int .i64 (p.rdc nM : Nat)]) ∧ Below W.heap.size W w') := fun W hW => pread_c nM W hW (by decide)
  obtain ⟨Q, hQ⟩ : ∃ Q, Q = ManPost w (ldM p) (ldC p) := ⟨_, rfl⟩
  rw [← hQ]
  have HQ := Lib.hid hQ
  obtain ⟨s, hs⟩ : ∃ s, s = p.rd nM := ⟨_, rfl⟩
  obtain ⟨c, hc⟩ : ∃ c, c = p.rdc nM := ⟨_, rfl⟩
  rw [← hs] at HL HM HC KR
  rw [← hc] at HM HC KR
  clear hQ hs hc h ht
  go_enter Tryz.func15, Tryz.ntmps15
  go_upto_region 1 with fail
  rw [show (#[.int .u64 0, .int .u8 0, .slice none 0 0, .slice none 0 0] : Array Value) = mcs mz none 0 none 0 from rfl]
  generalize w.alloc (.cells (mcs mz none 0 none 0) 34) = wa at *
  go_wp2_with fail
  refine (KR.out wa (HP.out.new H0.be)).mono ?_
  rintro R w1 ⟨rfl, hb1⟩
  have H1 := H0.to hb1
  clear hb1 H0
  by_cases h0 : c = 0
  · have hM := HM.out
    have hC := HC.out
    rw [if_pos h0] at hM hC
    have HMC := Lib.hid (And.intro hM hC)
    clear hM hC HM HC
    subst h0
    go_wp2_with fail
    refine (mtake_c s w1 (by have := HL.out; omega) (tab_below HT.out H1.be)).mono ?_
    rintro R w2 ⟨so, sc, co, cc, rfl, hm2, hb2, hn1, hn2, hn3⟩
    have H2 := H1.to hb2
    obtain ⟨w3, s3, H3, q3⟩ := H2.stA ty_man 0 rfl 0 (mcs (tkM s) so sc co cc) (cs' := mcs (tkM s) so sc co cc) rfl (L' := [(w.heap.size, 34, mcs (tkM s) so sc co cc)]) rfl (Nat.le_of_ble_eq_true rfl) rfl rfl
    have hlt := H1.low (e := (w.heap.size, 34, mcs mz none 0 none 0)) (by simp)
    dsimp only at hlt
    have h9 : Hid (Q (.returned (.tuple #[.agg (mcs (tkM s) so sc co cc), .int .i64 (tkE s)])) w3) := by
      show Q _ _
      rw [HQ.out, HMC.out.1, HMC.out.2]
      exact ⟨so, sc, co, cc, rfl, ⟨hm2.fit, ps_off hm2.ps q3 (fun _ a e => by have := hn1 a e; omega), ns_off hm2.ns q3 (fun _ a e => by have := hn2 a e; omega), hm2.l1, hm2.l2⟩, H3.be, fun a e => by have := hn1 a e; omega, fun a e => by have := hn2 a e; omega, hn3⟩
    obtain ⟨e, he⟩ : ∃ e, e = tkE s := ⟨_, rfl⟩
    rw [← he] at h9 ⊢
    clear he hm2 hb2 hn1 hn2 hn3 hlt q3 H1 H2 HMC
    go_wp2
    refine bodyPost_ret (shut_man _ e _ Tryz.results15 ty_man (H3.get 0 rfl) rfl rfl rfl) rfl ?_
    exact h9.out
  · have hM := HM.out
    have hC := HC.out
    rw [if_neg h0] at hM hC
    have HMC := Lib.hid (And.intro hM hC)
    have hq : ((c : Int) != 0) = true := by rw [bne_iff_ne]; omega
    clear hM hC HM HC h0
    obtain ⟨w3, s3, H3, _⟩ := H1.stA ty_man 0 rfl 0 #[.int .u64 0, .int .u8 0, .slice none 0 0, .slice none 0 0] (cs' := mcs mz none 0 none 0) rfl (L' := [(w.heap.size, 34, mcs mz none 0 none 0)]) rfl (Nat.le_of_ble_eq_true rfl) rfl rfl
    go_wp2
    refine bodyPost_ret (shut_man _ (c : Int) _ Tryz.results15 ty_man (H3.get 0 rfl) rfl rfl rfl) rfl ?_
    rw [HQ.out, HMC.out.1, HMC.out.2]
    exact man_none H3.be _
/-- A power over a disk whose fuse never comes. -/
def pn0 (E : List Ent) : Pw := ⟨-1, [], 0, false, E⟩
set_option maxHeartbeats 4000000 in
theorem loads_c {S : Nat → Prop} {q : Nat} {dv : Value} {E : List Ent} (w : World) (h : DkS S w dv q E) (ht : Tab w) :
    Calls Tryz.prog 24 #[dv] w (ManPost w (ldM (pn0 E)) (ldC (pn0 E))) := by
  have H0 := Loc.one w 34 (mcs mz none 0 none 0)
  have HT := Lib.hid ht
  have HD := Lib.hid h
  have KN : Hid (∀ W, DkS S W dv q E → Calls Tryz.prog 10 #[dv, .int .i64 (-1), .slice none 0 0] W (NewPw S W dv q (-1) [] E)) := fun W hW => pnew_c (-1) none [] 0 W hW (fun j hj => by cases hj) (by simp)
  have hpn : (⟨-1, [], 0, false, E⟩ : Pw) = pn0 E := rfl
  obtain ⟨m, hm⟩ : ∃ m, m = ldM (pn0 E) := ⟨_, rfl⟩
  obtain ⟨e, he⟩ : ∃ e, e = ldC (pn0 E) := ⟨_, rfl⟩
  have KL : Hid (∀ W S' g ko kc, PwC S' W g dv q ko kc (pn0 E) → Tab W → Calls Tryz.prog 15 #[.pointer (some ⟨g, 0, none⟩)] W (ManPost W m e)) := fun W S' g ko kc hW ht => by
    rw [hm, he]; exact load_c W hW ht
  rw [← hm, ← he]
  obtain ⟨Q, hQ⟩ : ∃ Q, Q = ManPost w m e := ⟨_, rfl⟩
  rw [← hQ]
  have HQ := Lib.hid hQ
  have HPN := Lib.hid hpn
  clear hQ hm he h ht hpn
  go_enter Tryz.func24, Tryz.ntmps24
  go_upto_region 1 with fail
  rw [show (#[.int .u64 0, .int .u8 0, .slice none 0 0, .slice none 0 0] : Array Value) = mcs mz none 0 none 0 from rfl]
  generalize w.alloc (.cells (mcs mz none 0 none 0) 34) = wa at *
  go_wp2_with fail
  refine (KN.out wa (HD.out.new H0.be)).mono ?_
  rintro R w1 ⟨gp, ko, kc, rfl, hgp, hko, hp1, hb1⟩
  rw [HPN.out] at hp1
  have H1 := H0.to hb1
  have HP1 := Lib.hid hp1
  clear hgp hko hb1 hp1 H0
  go_wp2_with fail
  refine (KL.out w1 _ gp ko kc HP1.out (tab_below HT.out H1.be)).mono ?_
  rintro R w2 ⟨so, sc, co, cc, rfl, hm2, hb2, hn1, hn2, hn3⟩
  have H2 := H1.to hb2
  obtain ⟨w3, s3, H3, q3⟩ := H2.stA ty_man 0 rfl 0 (mcs m so sc co cc) (cs' := mcs m so sc co cc) rfl (L' := [(w.heap.size, 34, mcs m so sc co cc)]) rfl (Nat.le_of_ble_eq_true rfl) rfl rfl
  have hlt := H1.low (e := (w.heap.size, 34, mcs mz none 0 none 0)) (by simp)
  dsimp only at hlt
  have h9 : Hid (Q (.returned (.tuple #[.agg (mcs m so sc co cc), .int .i64 e])) w3) := by
    show Q _ _
    rw [HQ.out]
    exact ⟨so, sc, co, cc, rfl, ⟨hm2.fit, ps_off hm2.ps q3 (fun _ a e => by have := hn1 a e; omega), ns_off hm2.ns q3 (fun _ a e => by have := hn2 a e; omega), hm2.l1, hm2.l2⟩, H3.be, fun a e => by have := hn1 a e; omega, fun a e => by have := hn2 a e; omega, hn3⟩
  clear hm2 hb2 hn1 hn2 hn3 hlt q3 H1 H2
  go_wp2
  refine bodyPost_ret (shut_man _ e _ Tryz.results24 ty_man (H3.get 0 rfl) rfl rfl rfl) rfl ?_
  exact h9.out
end Go.Proofs.YtakejacamkdncaaGreatDoor
