/- The document's Load and Newest: one contract each. Nothing is assumed beyond each contract's own bounds. -/
import Derived.Test.YtacgmadgkmcmoaaGreatDoorJg
import Derived.Test.YtacgmadgkmcmoaaGreatDoorJx
import Derived.Test.YtacgmadgkmcmoaaGreatDoorJe
namespace Go.Proofs.YtacgmadgkmcmoaaGreatDoor
open Go.RowKit
set_option linter.unusedVariables false
set_option linter.unusedSimpArgs false
set_option maxRecDepth 20000
attribute [local go_sem ↓] ld_state ld_u64 st_state
theorem le8_iff {a : List UInt8} {f : Nat} (ha : a.length = 8) (hf : f < 18446744073709551616) : a = le 8 f ↔ un a = f := by
  constructor
  · intro h; rw [h, un_le]; exact Nat.mod_eq_of_lt (by simpa using hf)
  · intro h; rw [← h, ← ha]; exact (le_un a).symm
theorem str_no3 {a b : List UInt8} (h : a ≠ b) : ((str a).toList != (str b).toList) = true := by rw [str_toList, str_toList]; simpa using h
set_option maxHeartbeats 8000000 in
theorem rkload_c {S : Nat → Prop} {h gr q : Nat} {kc : Nat} {ko : Option Addr} {p : Pw} (f : Nat) (w : World) (k : QwC S w h gr q ko kc p) (hf : f < 18446744073709551616) :
    Calls Tryz.prog 25 #[.pointer (some ⟨h, 0, none⟩), .int .u64 (f : Int)] w (KlPost w (klS p f) (klE p f)) := by
  have H0 := Loc.one w 34 (stc .zero none 0)
  have HP := Lib.hid k
  have HFF := Lib.hid hf
  have HL := Lib.hid (qrd_most k (cN f))
  have HS : Hid (klS p f = if p.rdc (cN f) = 0 then (kld (p.rd (cN f)) f).2 else .zero) := rfl
  have HC : Hid (klE p f = if p.rdc (cN f) = 0 then (kld (p.rd (cN f)) f).1 else (p.rdc (cN f) : Nat)) := rfl
  have KN : Hid (∀ W, Calls Tryz.prog 59 #[.int .u64 (f : Int)] W fun R w' => R = .returned (.string (str (cN f))) ∧ Below W.heap.size W w') := fun W => refChk_c f W hf
  have KR : Hid (∀ W, QwC S W h gr q ko kc p → Calls Tryz.prog 73 #[.pointer (some ⟨h, 0, none⟩), .string (str (cN f))] W fun R w' => R = .returned (.tuple #[.string (str (p.rd (cN f))), .int .i64 (p.rdc (cN f) : Nat)]) ∧ W = w') := fun W hW => rpread_c (cN f) W hW (by rw [cN_len]; decide)
  obtain ⟨Q, hQ⟩ : ∃ Q, Q = KlPost w (klS p f) (klE p f) := ⟨_, rfl⟩
  rw [← hQ]
  have HQ := Lib.hid hQ
  obtain ⟨s, hs⟩ : ∃ s, s = p.rd (cN f) := ⟨_, rfl⟩
  obtain ⟨c, hc⟩ : ∃ c, c = p.rdc (cN f) := ⟨_, rfl⟩
  rw [← hs] at HL HS HC KR
  rw [← hc] at HS HC KR
  obtain ⟨nm, hnm⟩ : ∃ nm, nm = cN f := ⟨_, rfl⟩
  rw [← hnm] at KN KR
  clear hQ hs hc k hf hnm
  go_enter Tryz.func25, Tryz.ntmps25
  go_upto_region 1 with fail
  rw [show (#[.int .u64 0, .int .u64 0, .int .i32 0, .int .i32 0, .int .i32 0, .int .i32 0, .int .u8 0, .int .u8 0, .int .u8 0, .int .i32 0, .int .i32 0, .int .i32 0, .int .i32 0, .int .u8 0, .int .u8 0, .int .u8 0, .slice none 0 0, .int .u16 0, .int .u16 0] : Array Value) = stc .zero none 0 from rfl]
  generalize w.alloc (.cells (stc .zero none 0) 34) = wa at *
  obtain ⟨g6, wb, z6, s6, H6, q6⟩ := H0.newA ty_state #[.int .u64 0, .int .u64 0, .int .i32 0, .int .i32 0, .int .i32 0, .int .i32 0, .int .u8 0, .int .u8 0, .int .u8 0, .int .i32 0, .int .i32 0, .int .i32 0, .int .i32 0, .int .u8 0, .int .u8 0, .int .u8 0, .slice none 0 0, .int .u16 0, .int .u16 0] #[.int .u64 0, .int .u64 0, .int .i32 0, .int .i32 0, .int .i32 0, .int .i32 0, .int .u8 0, .int .u8 0, .int .u8 0, .int .i32 0, .int .i32 0, .int .i32 0, .int .i32 0, .int .u8 0, .int .u8 0, .int .u8 0, .slice none 0 0, .int .u16 0, .int .u16 0] rfl rfl rfl
  replace H6 : Loc _ _ _ [(w.heap.size, 34, stc .zero none 0), (g6, 34, stc .zero none 0)] := H6
  clear q6 H0
  go_wp2_with fail
  clear s6 z6
  refine (KN.out _).mono ?_
  rintro R w0 ⟨rfl, hb0⟩
  have H1 := H6.to hb0
  clear hb0 H6
  go_wp2_with fail
  refine (KR.out w0 (HP.out.new H1.be)).mono ?_
  rintro R w1 ⟨rfl, rfl⟩
  by_cases h0 : c = 0
  rotate_left
  · have hS := HS.out
    have hC := HC.out
    rw [if_neg h0] at hS hC
    have HMC := Lib.hid (And.intro hS hC)
    have hq : ((c : Int) != 0) = true := by rw [bne_iff_ne]; omega
    clear hS hC HS HC h0
    have lz := H1.ldA ty_state 1 rfl 0 (vs := stc .zero none 0) rfl (Nat.le_of_ble_eq_true rfl)
    obtain ⟨wz, sz, HZ, -⟩ := H1.stA ty_state 0 rfl 0 (stc .zero none 0) (cs' := stc .zero none 0) rfl (L' := [(w.heap.size, 34, stc .zero none 0), (g6, 34, stc .zero none 0)]) rfl (Nat.le_of_ble_eq_true rfl) rfl rfl
    have HZ' := Lib.hid HZ
    clear HZ 
    go_wp2
    refine bodyPost_ret (shut_kl 4 5 _ (c : Int) _ Tryz.results25 (HZ'.out.get 0 rfl) rfl rfl rfl) rfl ?_
    rw [HQ.out, HMC.out.1, HMC.out.2]
    exact kl_none HZ'.out.be (c : Int)
  have hS := HS.out
  have hC := HC.out
  rw [if_pos h0] at hS hC
  have HMC := Lib.hid (And.intro hS hC)
  clear hS hC HS HC
  subst h0
  have HFL := Lib.hid (fp_len s)
  have hsz := str_size s
  go_wp2_with fail
  refine (refNext s _ (by have := HL.out; omega)).mono ?_
  rintro R w2 ⟨rfl, hb2⟩
  have H3 := H1.grown hb2
  clear hb2 H1
  by_cases hfe : fe s = 0
  rotate_left
  · have hq : (fe s != 0) = true := by rw [bne_iff_ne]; exact hfe
    have hk := kld_bad (f := f) hfe
    rw [hk] at HMC
    obtain ⟨e0, he0⟩ : ∃ e, e = fe s := ⟨_, rfl⟩
    rw [← he0] at hq HMC ⊢
    clear hk hfe he0
    have lz := H3.ldA ty_state 1 rfl 0 (vs := stc .zero none 0) rfl (Nat.le_of_ble_eq_true rfl)
    obtain ⟨wz, sz, HZ, -⟩ := H3.stA ty_state 0 rfl 0 (stc .zero none 0) (cs' := stc .zero none 0) rfl (L' := [(w.heap.size, 34, stc .zero none 0), (g6, 34, stc .zero none 0)]) rfl (Nat.le_of_ble_eq_true rfl) rfl rfl
    have HZ' := Lib.hid HZ
    clear HZ 
    go_wp2
    refine bodyPost_ret (shut_kl 4 5 _ e0 _ Tryz.results25 (HZ'.out.get 0 rfl) rfl rfl rfl) rfl ?_
    rw [HQ.out, HMC.out.1, HMC.out.2]
    exact kl_none HZ'.out.be e0
  have hq : (fe s != 0) = false := by rw [hfe]; rfl
  have hfu : fu s = 6 + (fp s).length := if_pos hfe
  have HFU := Lib.hid hfu
  clear hfu
  by_cases hn : 6 + (fp s).length = s.length
  rotate_left
  · have hq1 : ((fu s : Int) != (s.length : Int)) = true := by rw [HFU.out, bne_iff_ne]; omega
    have hk := kld_long (f := f) hfe hn
    rw [hk] at HMC
    clear hk hn hfe HFU
    have lz := H3.ldA ty_state 1 rfl 0 (vs := stc .zero none 0) rfl (Nat.le_of_ble_eq_true rfl)
    obtain ⟨wz, sz, HZ, -⟩ := H3.stA ty_state 0 rfl 0 (stc .zero none 0) (cs' := stc .zero none 0) rfl (L' := [(w.heap.size, 34, stc .zero none 0), (g6, 34, stc .zero none 0)]) rfl (Nat.le_of_ble_eq_true rfl) rfl rfl
    have HZ' := Lib.hid HZ
    clear HZ 
    go_wp2
    refine bodyPost_ret (shut_kl 4 5 _ 4 _ Tryz.results25 (HZ'.out.get 0 rfl) rfl rfl rfl) rfl ?_
    rw [HQ.out, HMC.out.1, HMC.out.2]
    exact kl_none HZ'.out.be 4
  have hq1 : ((fu s : Int) != (s.length : Int)) = false := by rw [HFU.out, hn]; exact bne_self_eq_false _
  have hk := kld_ok (f := f) hfe (by simp [hn])
  rw [hk] at HMC
  clear hk hn hfe HFU
  obtain ⟨y, hy⟩ : ∃ y, y = fp s := ⟨_, rfl⟩
  rw [← hy] at HMC HFL ⊢
  obtain ⟨u, hu⟩ : ∃ u, u = fu s := ⟨_, rfl⟩
  rw [← hu] at hq1 ⊢
  obtain ⟨e0, he0⟩ : ∃ e, e = fe s := ⟨_, rfl⟩
  rw [← he0] at hq ⊢
  clear hy hu he0
  have hyz := str_size y
  by_cases h16 : y.length < 16
  · have i16 : (y.length : Int) < 16 := by omega
    rw [ktk_len h16] at HMC
    clear h16
    have lz := H3.ldA ty_state 1 rfl 0 (vs := stc .zero none 0) rfl (Nat.le_of_ble_eq_true rfl)
    obtain ⟨wz, sz, HZ, -⟩ := H3.stA ty_state 0 rfl 0 (stc .zero none 0) (cs' := stc .zero none 0) rfl (L' := [(w.heap.size, 34, stc .zero none 0), (g6, 34, stc .zero none 0)]) rfl (Nat.le_of_ble_eq_true rfl) rfl rfl
    have HZ' := Lib.hid HZ
    clear HZ 
    go_wp2
    refine bodyPost_ret (shut_kl 4 5 _ 10 _ Tryz.results25 (HZ'.out.get 0 rfl) rfl rfl rfl) rfl ?_
    rw [HQ.out, HMC.out.1, HMC.out.2]
    exact kl_none HZ'.out.be 10
  have i16 : ¬ (y.length : Int) < 16 := by omega
  have KB := Lib.hid (fun h => ktk_bad (f := f) h16 h)
  have KF := Lib.hid (fun h h2 => ktk_form (f := f) h16 h h2)
  have KS := Lib.hid (fun h h2 h3 => ktk_sum (f := f) h16 h h2 h3)
  have KO := Lib.hid (fun h h2 h3 => ktk_ok (f := f) h16 h h2 h3)
  have HTF := Lib.hid (tst_few (y.drop 16))
  have HTS := Lib.hid (fun h => tst_sput (l := y.drop 16) h)
  have HDL := Lib.hid (show (y.drop 16).length ≤ 4096 by rw [List.length_drop]; have := HFL.out; omega)
  have x3 : (str y).extract 16 y.length = str (y.drop 16) := str_rest y 16
  have x1 : (str y).extract 0 8 = str (y.take 8) := str_cut y 8
  have x2 : (str y).extract 8 16 = str ((y.drop 8).take 8) := by rw [str_extract, List.drop_take]
  have HAL := Lib.hid (show (y.take 8).length = 8 ∧ ((y.drop 8).take 8).length = 8 from ⟨by rw [List.length_take]; omega, by rw [List.length_take, List.length_drop]; omega⟩)
  have i16b : (16 : Int) ≤ (y.length : Int) := by omega
  have i8b : (8 : Int) ≤ (y.length : Int) := by omega
  obtain ⟨MK, hMK⟩ : ∃ x, x = ktk y f := ⟨_, rfl⟩
  rw [← hMK] at KB KF KS KO HMC
  obtain ⟨a, ha⟩ : ∃ a, a = y.take 8 := ⟨_, rfl⟩
  obtain ⟨b, hb⟩ : ∃ b, b = (y.drop 8).take 8 := ⟨_, rfl⟩
  obtain ⟨r, hr⟩ : ∃ r, r = y.drop 16 := ⟨_, rfl⟩
  rw [← ha] at KF KS KO x1 HAL
  rw [← hb] at KS KO x2 HAL
  rw [← hr] at KB KF KS KO x3 HTF HTS HDL
  clear h16 hMK ha hb hr
  go_wp2_with fail
  refine (refTake_c r _ (by have := HDL.out; omega)).mono ?_
  rintro E w4 ⟨ao, cap, rfl, hown, hb4⟩
  have HLE := H3.size
  have H4 := H3.grown hb4
  have HSH := Lib.hid (show Shs w4 ao (tst r).2.ss from shs_own hown rfl HTF.out.2.2.2.2.2.1)
  have HAO := Lib.hid (show ∀ a, ao = some a → w2.heap.size ≤ a.block from fun a e => (hown.lt a.block (by rw [e]; rfl)).1)
  have H0L := Lib.hid (H3.low (e := (w.heap.size, 34, stc .zero none 0)) (by simp))
  clear hown hb4 H3 HDL
  obtain ⟨⟨ec, t⟩, het⟩ : ∃ x, x = tst r := ⟨_, rfl⟩
  rw [← het] at KB KF KS KO HTF HTS HSH ⊢
  dsimp only at KB KF KS KO HTF HTS HSH ⊢
  clear het
  obtain ⟨g8, w6, z8, s8, H8, q8⟩ := H4.newA ty_state #[.int .u64 0, .int .u64 0, .int .i32 0, .int .i32 0, .int .i32 0, .int .i32 0, .int .u8 0, .int .u8 0, .int .u8 0, .int .i32 0, .int .i32 0, .int .i32 0, .int .i32 0, .int .u8 0, .int .u8 0, .int .u8 0, .slice none 0 0, .int .u16 0, .int .u16 0] (stc t ao cap) rfl rfl rfl
  replace H8 : Loc _ _ _ [(w.heap.size, 34, stc .zero none 0), (g6, 34, stc .zero none 0), (g8, 34, stc t ao cap)] := H8
  have HSH6 := Lib.hid (shs_to HSH.out (below_of_grown q8))
  have HB6 := Lib.hid H8.be
  clear q8
  by_cases he : ec = 0
  rotate_left
  · have hq0 : (ec != 0) = true := by rw [bne_iff_ne]; exact he
    have hk := KB.out he
    rw [hk] at HMC
    clear he hk KB KF KS KO HTS
    have lz := H8.ldA ty_state 1 rfl 0 (vs := stc .zero none 0) rfl (Nat.le_of_ble_eq_true rfl)
    obtain ⟨wz, sz, HZ, -⟩ := H8.stA ty_state 0 rfl 0 (stc .zero none 0) (cs' := stc .zero none 0) rfl (L' := [(w.heap.size, 34, stc .zero none 0), (g6, 34, stc .zero none 0), (g8, 34, stc t ao cap)]) rfl (Nat.le_of_ble_eq_true rfl) rfl rfl
    have HZ' := Lib.hid HZ
    clear HZ 
    go_wp2
    refine bodyPost_ret (shut_kl 4 5 _ ec _ Tryz.results25 (HZ'.out.get 0 rfl) rfl rfl rfl) rfl ?_
    rw [HQ.out, HMC.out.1, HMC.out.2]
    exact kl_none HZ'.out.be ec
  have hq0 : (ec != 0) = false := by rw [he]; rfl
  have HKS := Lib.hid (KS.out he)
  have HKO := Lib.hid (KO.out he)
  have HKF := Lib.hid (KF.out he)
  have HSP := Lib.hid (HTS.out he)
  clear KB KF KS KO HTS he
  have HH8 := Lib.hid H8
  have hin := @le8_iff a f HAL.out.1 HFF.out
  have a6 := H8.onO ty_u64 2 rfl 0 (v := .int .u64 (t.fr : Int)) rfl
  have o0 : G.On w6.heap.size w6 w6.drew := (Below.refl _ w6).drew
  have N1 := Lib.hid (fun W => refNumber f 8 W HFF.out (by decide))
  go_upto_region 15 with fail
  clear s8 z8 H4
  by_cases h1 : a = le 8 f
  rotate_left
  · have hq2 := str_no3 h1
    have hq2b := str_no2' h1
    have hk := HKF.out (.inl (fun h => h1 (hin.2 h)))
    rw [hk] at HMC
    clear hk h1 hin HKS HKO HKF
    obtain ⟨nf, hnf⟩ : ∃ nf, nf = le 8 f := ⟨_, rfl⟩
    rw [← hnf] at N1 hq2 hq2b
    clear hnf
    go_cut [65] (fun v wx => v = .bool true ∧ Hid (G.On w6.heap.size w6 wx))
    case first =>
      refine wp_region_till (S := fun W => G.On w6.heap.size w6 W) (by kernel_rfl) ?_
      refine wpTill_take (i := 0) (v := ?vq1) rfl (by kernel_rfl) (fun _ _ _ h => h) (Or.inl ⟨by rfl, ?hq1⟩) o0 ?rq1
      case hq1 => (intro W hW; (try dsimp only at hW); go_simp; try with_reducible rfl)
      simp only [Act.put, List.setIfInBounds_toArray, List.set_cons_zero, List.set_cons_succ, List.getElem_toArray, List.getElem_cons_succ, List.getElem_cons_zero]
      refine wpTill_take (i := 1) (v := ?vq2) rfl (by kernel_rfl) (fun _ _ _ h => h) (Or.inl ⟨by rfl, ?hq2⟩) o0 ?rq2
      case hq2 => (intro W hW; (try dsimp only at hW); go_simp; try with_reducible rfl)
      simp only [Act.put, List.setIfInBounds_toArray, List.set_cons_zero, List.set_cons_succ, List.getElem_toArray, List.getElem_cons_succ, List.getElem_cons_zero]
      refine wpTill_take (i := 2) (v := ?vq3) rfl (by kernel_rfl) (fun _ _ _ h => h) (Or.inl ⟨by rfl, ?hq3⟩) o0 ?rq3
      case hq3 => (intro W hW; (try dsimp only at hW); go_simp; try with_reducible rfl)
      simp only [Act.put, List.setIfInBounds_toArray, List.set_cons_zero, List.set_cons_succ, List.getElem_toArray, List.getElem_cons_succ, List.getElem_cons_zero]
      refine wpTill_run (i := 3) (by kernel_rfl) rfl o0 (fun K hK => ?_)
      go_simp
      go_at_call 76
      refine (N1.out _).mono ?_
      rintro E w7 ⟨rfl, hb7⟩
      have o1 := G.on_step (wd := w6) o0 (below_of_grown hb7)
      clear hb7
      refine hK _ _ ?_
      clear hK K
      refine wpTill_take (i := 4) (v := ?vq4) rfl (by kernel_rfl) (fun _ _ _ h => h) (Or.inl ⟨by rfl, ?hq4⟩) o1 ?rq4
      case hq4 => (intro W hW; (try dsimp only at hW); go_simp; try with_reducible rfl)
      simp only [Act.put, List.setIfInBounds_toArray, List.set_cons_zero, List.set_cons_succ, List.getElem_toArray, List.getElem_cons_succ, List.getElem_cons_zero]
      refine wpTill_take (i := 5) (v := ?vq5) rfl (by kernel_rfl) (fun _ _ _ h => h) (Or.inl ⟨by rfl, ?hq5⟩) o1 ?rq5
      case hq5 => (intro W hW; (try dsimp only at hW); go_simp; try with_reducible rfl)
      simp only [Act.put, List.setIfInBounds_toArray, List.set_cons_zero, List.set_cons_succ, List.getElem_toArray, List.getElem_cons_succ, List.getElem_cons_zero]
      refine wpTill_take (i := 6) (v := undef) rfl (by kernel_rfl) (fun _ _ _ h => h) (Or.inr ⟨by rfl, rfl⟩) o1 ?rq6
      simp only [Act.put, List.setIfInBounds_toArray, List.set_cons_zero, List.set_cons_succ, List.getElem_toArray, List.getElem_cons_succ, List.getElem_cons_zero]
      refine wpTill_take (i := 7) (v := undef) rfl (by kernel_rfl) (fun _ _ _ h => h) (Or.inr ⟨by rfl, rfl⟩) o1 ?rq7
      simp only [Act.put, List.setIfInBounds_toArray, List.set_cons_zero, List.set_cons_succ, List.getElem_toArray, List.getElem_cons_succ, List.getElem_cons_zero]
      refine wpTill_take (i := 8) (v := undef) rfl (by kernel_rfl) (fun _ _ _ h => h) (Or.inr ⟨by rfl, rfl⟩) o1 ?rq8
      simp only [Act.put, List.setIfInBounds_toArray, List.set_cons_zero, List.set_cons_succ, List.getElem_toArray, List.getElem_cons_succ, List.getElem_cons_zero]
      refine wpTill_take (i := 9) (v := undef) rfl (by kernel_rfl) (fun _ _ _ h => h) (Or.inr ⟨by rfl, rfl⟩) o1 ?rq9
      simp only [Act.put, List.setIfInBounds_toArray, List.set_cons_zero, List.set_cons_succ, List.getElem_toArray, List.getElem_cons_succ, List.getElem_cons_zero]
      refine wpTill_run (i := 10) (by kernel_rfl) rfl o1 (fun K hK => ?_)
      go_simp
      refine hK _ _ ?_
      clear hK K
      refine wpTill_done (by kernel_rfl) ?_
      go_wp2_with fail
      go_meet
      exact ⟨rfl, o1⟩
    case rest =>
    obtain ⟨rfl, HON⟩ := hcut
    have H9 := HH8.out.to HON.out
    clear o0 a6 HON HH8 H8
    have lz := H9.ldA ty_state 1 rfl 0 (vs := stc .zero none 0) rfl (Nat.le_of_ble_eq_true rfl)
    obtain ⟨wz, sz, HZ, -⟩ := H9.stA ty_state 0 rfl 0 (stc .zero none 0) (cs' := stc .zero none 0) rfl (L' := [(w.heap.size, 34, stc .zero none 0), (g6, 34, stc .zero none 0), (g8, 34, stc t ao cap)]) rfl (Nat.le_of_ble_eq_true rfl) rfl rfl
    have HZ' := Lib.hid HZ
    clear HZ 
    go_wp2
    refine bodyPost_ret (shut_kl 4 5 _ 4 _ Tryz.results25 (HZ'.out.get 0 rfl) rfl rfl rfl) rfl ?_
    rw [HQ.out, HMC.out.1, HMC.out.2]
    exact kl_none HZ'.out.be 4
  have h1u := hin.1 h1
  have hq2 := str_yes3 (le 8 f)
  by_cases h2 : t.fr = f
  rotate_left
  · have hq3 : ((t.fr : Int) != (f : Int)) = true := by rw [bne_iff_ne]; omega
    have hk := HKF.out (.inr h2)
    rw [hk] at HMC
    rw [h1] at x1
    clear hk h2 hin h1u HKS HKO HKF h1
    obtain ⟨nf, hnf⟩ : ∃ nf, nf = le 8 f := ⟨_, rfl⟩
    rw [← hnf] at N1 hq2 x1
    clear hnf
    go_cut [65] (fun v wx => v = .bool true ∧ Hid (G.On w6.heap.size w6 wx))
    case first =>
      refine wp_region_till (S := fun W => G.On w6.heap.size w6 W) (by kernel_rfl) ?_
      refine wpTill_take (i := 0) (v := ?vq10) rfl (by kernel_rfl) (fun _ _ _ h => h) (Or.inl ⟨by rfl, ?hq10⟩) o0 ?rq10
      case hq10 => (intro W hW; (try dsimp only at hW); go_simp; try with_reducible rfl)
      simp only [Act.put, List.setIfInBounds_toArray, List.set_cons_zero, List.set_cons_succ, List.getElem_toArray, List.getElem_cons_succ, List.getElem_cons_zero]
      refine wpTill_take (i := 1) (v := ?vq11) rfl (by kernel_rfl) (fun _ _ _ h => h) (Or.inl ⟨by rfl, ?hq11⟩) o0 ?rq11
      case hq11 => (intro W hW; (try dsimp only at hW); go_simp; try with_reducible rfl)
      simp only [Act.put, List.setIfInBounds_toArray, List.set_cons_zero, List.set_cons_succ, List.getElem_toArray, List.getElem_cons_succ, List.getElem_cons_zero]
      refine wpTill_take (i := 2) (v := ?vq12) rfl (by kernel_rfl) (fun _ _ _ h => h) (Or.inl ⟨by rfl, ?hq12⟩) o0 ?rq12
      case hq12 => (intro W hW; (try dsimp only at hW); go_simp; try with_reducible rfl)
      simp only [Act.put, List.setIfInBounds_toArray, List.set_cons_zero, List.set_cons_succ, List.getElem_toArray, List.getElem_cons_succ, List.getElem_cons_zero]
      refine wpTill_run (i := 3) (by kernel_rfl) rfl o0 (fun K hK => ?_)
      go_simp
      go_at_call 76
      refine (N1.out _).mono ?_
      rintro E w7 ⟨rfl, hb7⟩
      have o1 := G.on_step (wd := w6) o0 (below_of_grown hb7)
      clear hb7
      refine hK _ _ ?_
      clear hK K
      refine wpTill_take (i := 4) (v := ?vq13) rfl (by kernel_rfl) (fun _ _ _ h => h) (Or.inl ⟨by rfl, ?hq13⟩) o1 ?rq13
      case hq13 => (intro W hW; (try dsimp only at hW); go_simp; try with_reducible rfl)
      simp only [Act.put, List.setIfInBounds_toArray, List.set_cons_zero, List.set_cons_succ, List.getElem_toArray, List.getElem_cons_succ, List.getElem_cons_zero]
      refine wpTill_take (i := 5) (v := ?vq14) rfl (by kernel_rfl) (fun _ _ _ h => h) (Or.inl ⟨by rfl, ?hq14⟩) o1 ?rq14
      case hq14 => (intro W hW; (try dsimp only at hW); go_simp; try with_reducible rfl)
      simp only [Act.put, List.setIfInBounds_toArray, List.set_cons_zero, List.set_cons_succ, List.getElem_toArray, List.getElem_cons_succ, List.getElem_cons_zero]
      refine wpTill_take (i := 6) (v := ?vq15) rfl (by kernel_rfl) (fun _ _ _ h => h) (Or.inl ⟨by rfl, ?hq15⟩) o1 ?rq15
      case hq15 => (intro W hW; (try dsimp only at hW); go_simp; try with_reducible rfl)
      simp only [Act.put, List.setIfInBounds_toArray, List.set_cons_zero, List.set_cons_succ, List.getElem_toArray, List.getElem_cons_succ, List.getElem_cons_zero]
      refine wpTill_take (i := 7) (v := ?vq16) rfl (by kernel_rfl) (fun _ _ _ h => h) (Or.inl ⟨by rfl, ?hq16⟩) o1 ?rq16
      case hq16 => (intro W hW; (try dsimp only at hW); go_simp; try with_reducible rfl)
      simp only [Act.put, List.setIfInBounds_toArray, List.set_cons_zero, List.set_cons_succ, List.getElem_toArray, List.getElem_cons_succ, List.getElem_cons_zero]
      refine wpTill_take (i := 8) (v := ?vq17) rfl (by kernel_rfl) (fun _ _ _ h => h) (Or.inl ⟨by rfl, ?hq17⟩) o1 ?rq17
      case hq17 => (intro W hW; (try dsimp only at hW); go_simp; try with_reducible rfl)
      simp only [Act.put, List.setIfInBounds_toArray, List.set_cons_zero, List.set_cons_succ, List.getElem_toArray, List.getElem_cons_succ, List.getElem_cons_zero]
      refine wpTill_take (i := 9) (v := ?vq18) rfl (by kernel_rfl) (fun _ _ _ h => h) (Or.inl ⟨by rfl, ?hq18⟩) o1 ?rq18
      case hq18 => (intro W hW; (try dsimp only at hW); go_simp; try with_reducible rfl)
      simp only [Act.put, List.setIfInBounds_toArray, List.set_cons_zero, List.set_cons_succ, List.getElem_toArray, List.getElem_cons_succ, List.getElem_cons_zero]
      refine wpTill_run (i := 10) (by kernel_rfl) rfl o1 (fun K hK => ?_)
      go_simp
      refine hK _ _ ?_
      clear hK K
      refine wpTill_done (by kernel_rfl) ?_
      go_wp2_with fail
      go_meet
      exact ⟨rfl, o1⟩
    case rest =>
    obtain ⟨rfl, HON⟩ := hcut
    have H9 := HH8.out.to HON.out
    clear o0 a6 HON HH8 H8
    have lz := H9.ldA ty_state 1 rfl 0 (vs := stc .zero none 0) rfl (Nat.le_of_ble_eq_true rfl)
    obtain ⟨wz, sz, HZ, -⟩ := H9.stA ty_state 0 rfl 0 (stc .zero none 0) (cs' := stc .zero none 0) rfl (L' := [(w.heap.size, 34, stc .zero none 0), (g6, 34, stc .zero none 0), (g8, 34, stc t ao cap)]) rfl (Nat.le_of_ble_eq_true rfl) rfl rfl
    have HZ' := Lib.hid HZ
    clear HZ 
    go_wp2
    refine bodyPost_ret (shut_kl 4 5 _ 4 _ Tryz.results25 (HZ'.out.get 0 rfl) rfl rfl rfl) rfl ?_
    rw [HQ.out, HMC.out.1, HMC.out.2]
    exact kl_none HZ'.out.be 4
  have hq3 : ((t.fr : Int) != (f : Int)) = false := by rw [h2]; exact bne_self_eq_false _
  have hnn : ¬ (un a ≠ f ∨ t.fr ≠ f) := by simp [h1u, h2]
  have KS2 := Lib.hid (HKS.out hnn)
  have KO2 := Lib.hid (HKO.out hnn)
  rw [h1] at x1
  clear h2 hin h1u HKS HKO HKF h1 hnn
  obtain ⟨nf, hnf⟩ : ∃ nf, nf = le 8 f := ⟨_, rfl⟩
  rw [← hnf] at N1 hq2 x1
  clear hnf
  go_cut [65] (fun v wx => v = .bool false ∧ Hid (G.On w6.heap.size w6 wx))
  case first =>
      refine wp_region_till (S := fun W => G.On w6.heap.size w6 W) (by kernel_rfl) ?_
      refine wpTill_take (i := 0) (v := ?vq19) rfl (by kernel_rfl) (fun _ _ _ h => h) (Or.inl ⟨by rfl, ?hq19⟩) o0 ?rq19
      case hq19 => (intro W hW; (try dsimp only at hW); go_simp; try with_reducible rfl)
      simp only [Act.put, List.setIfInBounds_toArray, List.set_cons_zero, List.set_cons_succ, List.getElem_toArray, List.getElem_cons_succ, List.getElem_cons_zero]
      refine wpTill_take (i := 1) (v := ?vq20) rfl (by kernel_rfl) (fun _ _ _ h => h) (Or.inl ⟨by rfl, ?hq20⟩) o0 ?rq20
      case hq20 => (intro W hW; (try dsimp only at hW); go_simp; try with_reducible rfl)
      simp only [Act.put, List.setIfInBounds_toArray, List.set_cons_zero, List.set_cons_succ, List.getElem_toArray, List.getElem_cons_succ, List.getElem_cons_zero]
      refine wpTill_take (i := 2) (v := ?vq21) rfl (by kernel_rfl) (fun _ _ _ h => h) (Or.inl ⟨by rfl, ?hq21⟩) o0 ?rq21
      case hq21 => (intro W hW; (try dsimp only at hW); go_simp; try with_reducible rfl)
      simp only [Act.put, List.setIfInBounds_toArray, List.set_cons_zero, List.set_cons_succ, List.getElem_toArray, List.getElem_cons_succ, List.getElem_cons_zero]
      refine wpTill_run (i := 3) (by kernel_rfl) rfl o0 (fun K hK => ?_)
      go_simp
      go_at_call 76
      refine (N1.out _).mono ?_
      rintro E w7 ⟨rfl, hb7⟩
      have o1 := G.on_step (wd := w6) o0 (below_of_grown hb7)
      clear hb7
      refine hK _ _ ?_
      clear hK K
      refine wpTill_take (i := 4) (v := ?vq22) rfl (by kernel_rfl) (fun _ _ _ h => h) (Or.inl ⟨by rfl, ?hq22⟩) o1 ?rq22
      case hq22 => (intro W hW; (try dsimp only at hW); go_simp; try with_reducible rfl)
      simp only [Act.put, List.setIfInBounds_toArray, List.set_cons_zero, List.set_cons_succ, List.getElem_toArray, List.getElem_cons_succ, List.getElem_cons_zero]
      refine wpTill_take (i := 5) (v := ?vq23) rfl (by kernel_rfl) (fun _ _ _ h => h) (Or.inl ⟨by rfl, ?hq23⟩) o1 ?rq23
      case hq23 => (intro W hW; (try dsimp only at hW); go_simp; try with_reducible rfl)
      simp only [Act.put, List.setIfInBounds_toArray, List.set_cons_zero, List.set_cons_succ, List.getElem_toArray, List.getElem_cons_succ, List.getElem_cons_zero]
      refine wpTill_take (i := 6) (v := ?vq24) rfl (by kernel_rfl) (fun _ _ _ h => h) (Or.inl ⟨by rfl, ?hq24⟩) o1 ?rq24
      case hq24 => (intro W hW; (try dsimp only at hW); go_simp; try with_reducible rfl)
      simp only [Act.put, List.setIfInBounds_toArray, List.set_cons_zero, List.set_cons_succ, List.getElem_toArray, List.getElem_cons_succ, List.getElem_cons_zero]
      refine wpTill_take (i := 7) (v := ?vq25) rfl (by kernel_rfl) (fun _ _ _ h => h) (Or.inl ⟨by rfl, ?hq25⟩) o1 ?rq25
      case hq25 => (intro W hW; (try dsimp only at hW); go_simp; try with_reducible rfl)
      simp only [Act.put, List.setIfInBounds_toArray, List.set_cons_zero, List.set_cons_succ, List.getElem_toArray, List.getElem_cons_succ, List.getElem_cons_zero]
      refine wpTill_take (i := 8) (v := ?vq26) rfl (by kernel_rfl) (fun _ _ _ h => h) (Or.inl ⟨by rfl, ?hq26⟩) o1 ?rq26
      case hq26 => (intro W hW; (try dsimp only at hW); go_simp; try with_reducible rfl)
      simp only [Act.put, List.setIfInBounds_toArray, List.set_cons_zero, List.set_cons_succ, List.getElem_toArray, List.getElem_cons_succ, List.getElem_cons_zero]
      refine wpTill_take (i := 9) (v := ?vq27) rfl (by kernel_rfl) (fun _ _ _ h => h) (Or.inl ⟨by rfl, ?hq27⟩) o1 ?rq27
      case hq27 => (intro W hW; (try dsimp only at hW); go_simp; try with_reducible rfl)
      simp only [Act.put, List.setIfInBounds_toArray, List.set_cons_zero, List.set_cons_succ, List.getElem_toArray, List.getElem_cons_succ, List.getElem_cons_zero]
      refine wpTill_run (i := 10) (by kernel_rfl) rfl o1 (fun K hK => ?_)
      go_simp
      refine hK _ _ ?_
      clear hK K
      refine wpTill_done (by kernel_rfl) ?_
      go_wp2_with fail
      go_meet
      exact ⟨rfl, o1⟩
  case rest =>
  obtain ⟨rfl, HON⟩ := hcut
  have o9 : G.On w6.heap.size w6 _ := Below.drew HON.out
  clear o0 a6 HON H8 x1 hq2 hq3 N1
  have KD := Lib.hid (fun W hW => rof_c t ao cap W hW HTF.out.2)
  rw [HSP.out] at KD
  have HDD := Lib.hid (show djn bas (ste t) < 18446744073709551616 from djn_lt _ _ (by decide))
  obtain ⟨dg, hdg⟩ : ∃ d, d = djn bas (ste t) := ⟨_, rfl⟩
  rw [← hdg] at KD KS2 KO2 HDD
  clear hdg
  have N2 := Lib.hid (fun W => refNumber dg 8 W HDD.out (by decide))
  have hin2 := @le8_iff b dg HAL.out.2 HDD.out
  have a8 := HH8.out.onA ty_state 2 rfl 0 (vs := stc t ao cap) rfl (Nat.le_of_ble_eq_true rfl)
  go_upto_region 17 with fail
  by_cases h3 : b = le 8 dg
  rotate_left
  · have hq4 := str_no3 h3
    have hq4b := str_no2' h3
    have hk := KS2.out (fun h => h3 (hin2.2 h))
    rw [hk] at HMC
    clear hk h3 hin2 KS2 KO2
    obtain ⟨nd, hnd⟩ : ∃ x, x = le 8 dg := ⟨_, rfl⟩
    rw [← hnd] at N2 hq4 hq4b
    clear hnd
    refine wp_region_till (S := fun W => G.On w6.heap.size w6 W) (by kernel_rfl) ?_
    refine wpTill_take (i := 0) (v := ?vq28) rfl (by kernel_rfl) (fun _ _ _ h => h) (Or.inl ⟨by rfl, ?hq28⟩) o9 ?rq28
    case hq28 => (intro W hW; (try dsimp only at hW); go_simp; try with_reducible rfl)
    simp only [Act.put, List.setIfInBounds_toArray, List.set_cons_zero, List.set_cons_succ, List.getElem_toArray, List.getElem_cons_succ, List.getElem_cons_zero]
    refine wpTill_take (i := 1) (v := ?vq29) rfl (by kernel_rfl) (fun _ _ _ h => h) (Or.inl ⟨by rfl, ?hq29⟩) o9 ?rq29
    case hq29 => (intro W hW; (try dsimp only at hW); go_simp; try with_reducible rfl)
    simp only [Act.put, List.setIfInBounds_toArray, List.set_cons_zero, List.set_cons_succ, List.getElem_toArray, List.getElem_cons_succ, List.getElem_cons_zero]
    refine wpTill_take (i := 2) (v := ?vq30) rfl (by kernel_rfl) (fun _ _ _ h => h) (Or.inl ⟨by rfl, ?hq30⟩) o9 ?rq30
    case hq30 => (intro W hW; (try dsimp only at hW); go_simp; try with_reducible rfl)
    simp only [Act.put, List.setIfInBounds_toArray, List.set_cons_zero, List.set_cons_succ, List.getElem_toArray, List.getElem_cons_succ, List.getElem_cons_zero]
    refine wpTill_run (i := 3) (by kernel_rfl) rfl o9 (fun K hK => ?_)
    go_simp
    go_at_call 77
    refine (KD.out _ (shs_to HSH6.out o9)).mono ?_
    rintro E w8 ⟨rfl, hb8⟩
    have p1 := G.on_step (wd := w6) o9 hb8
    clear hb8
    refine hK _ _ ?_
    clear hK K
    refine wpTill_run (i := 4) (by kernel_rfl) rfl p1 (fun K hK => ?_)
    go_simp
    go_at_call 76
    refine (N2.out _).mono ?_
    rintro E w9 ⟨rfl, hb9⟩
    have p2 := G.on_step (wd := w6) p1 (below_of_grown hb9)
    clear hb9
    refine hK _ _ ?_
    clear hK K
    refine wpTill_run (i := 5) (by kernel_rfl) rfl p2 (fun K hK => ?_)
    go_simp
    refine hK _ _ ?_
    clear hK K
    refine wpTill_done (by kernel_rfl) ?_
    have H10 := HH8.out.to p2
    have HSH10 := Lib.hid (shs_to HSH6.out p2)
    clear a8 hq4 hq4b HH8 p1 o9
    have lz := H10.ldA ty_state 1 rfl 0 (vs := stc .zero none 0) rfl (Nat.le_of_ble_eq_true rfl)
    obtain ⟨wz, sz, HZ, -⟩ := H10.stA ty_state 0 rfl 0 (stc .zero none 0) (cs' := stc .zero none 0) rfl (L' := [(w.heap.size, 34, stc .zero none 0), (g6, 34, stc .zero none 0), (g8, 34, stc t ao cap)]) rfl (Nat.le_of_ble_eq_true rfl) rfl rfl
    have HZ' := Lib.hid HZ
    clear HZ 
    go_wp2
    refine bodyPost_ret (shut_kl 4 5 _ 9 _ Tryz.results25 (HZ'.out.get 0 rfl) rfl rfl rfl) rfl ?_
    rw [HQ.out, HMC.out.1, HMC.out.2]
    exact kl_none HZ'.out.be 9
  have hq4 := str_yes3 (le 8 dg)
  have hk := KO2.out (by rw [hin2.1 h3]; simp)
  rw [hk] at HMC
  rw [h3] at x2
  clear hk h3 hin2 KS2 KO2
  obtain ⟨nd, hnd⟩ : ∃ x, x = le 8 dg := ⟨_, rfl⟩
  rw [← hnd] at N2 hq4 x2
  clear hnd
  refine wp_region_till (S := fun W => G.On w6.heap.size w6 W) (by kernel_rfl) ?_
  refine wpTill_take (i := 0) (v := ?vq31) rfl (by kernel_rfl) (fun _ _ _ h => h) (Or.inl ⟨by rfl, ?hq31⟩) o9 ?rq31
  case hq31 => (intro W hW; (try dsimp only at hW); go_simp; try with_reducible rfl)
  simp only [Act.put, List.setIfInBounds_toArray, List.set_cons_zero, List.set_cons_succ, List.getElem_toArray, List.getElem_cons_succ, List.getElem_cons_zero]
  refine wpTill_take (i := 1) (v := ?vq32) rfl (by kernel_rfl) (fun _ _ _ h => h) (Or.inl ⟨by rfl, ?hq32⟩) o9 ?rq32
  case hq32 => (intro W hW; (try dsimp only at hW); go_simp; try with_reducible rfl)
  simp only [Act.put, List.setIfInBounds_toArray, List.set_cons_zero, List.set_cons_succ, List.getElem_toArray, List.getElem_cons_succ, List.getElem_cons_zero]
  refine wpTill_take (i := 2) (v := ?vq33) rfl (by kernel_rfl) (fun _ _ _ h => h) (Or.inl ⟨by rfl, ?hq33⟩) o9 ?rq33
  case hq33 => (intro W hW; (try dsimp only at hW); go_simp; try with_reducible rfl)
  simp only [Act.put, List.setIfInBounds_toArray, List.set_cons_zero, List.set_cons_succ, List.getElem_toArray, List.getElem_cons_succ, List.getElem_cons_zero]
  refine wpTill_run (i := 3) (by kernel_rfl) rfl o9 (fun K hK => ?_)
  go_simp
  go_at_call 77
  refine (KD.out _ (shs_to HSH6.out o9)).mono ?_
  rintro E w8 ⟨rfl, hb8⟩
  have p1 := G.on_step (wd := w6) o9 hb8
  clear hb8
  refine hK _ _ ?_
  clear hK K
  refine wpTill_run (i := 4) (by kernel_rfl) rfl p1 (fun K hK => ?_)
  go_simp
  go_at_call 76
  refine (N2.out _).mono ?_
  rintro E w9 ⟨rfl, hb9⟩
  have p2 := G.on_step (wd := w6) p1 (below_of_grown hb9)
  clear hb9
  refine hK _ _ ?_
  clear hK K
  refine wpTill_run (i := 5) (by kernel_rfl) rfl p2 (fun K hK => ?_)
  go_simp
  refine hK _ _ ?_
  clear hK K
  refine wpTill_done (by kernel_rfl) ?_
  have H10 := HH8.out.to p2
  have HSH10 := Lib.hid (shs_to HSH6.out p2)
  have l9 := H10.ldA ty_state 2 rfl 0 (vs := stc t ao cap) rfl (Nat.le_of_ble_eq_true rfl)
  obtain ⟨wz, sz, HZ, qz⟩ := H10.stA ty_state 0 rfl 0 (stc t ao cap) (cs' := stc t ao cap) rfl (L' := [(w.heap.size, 34, stc t ao cap), (g6, 34, stc .zero none 0), (g8, 34, stc t ao cap)]) rfl (Nat.le_of_ble_eq_true rfl) rfl rfl
  have HZ' := Lib.hid HZ
  have HSZ := Lib.hid (shs_turn HSH10.out qz (fun a e _ => by have h1 := HAO.out a e; have h2 := H0L.out; first | omega | (dsimp only at h2; omega)))
  clear HZ qz H10 HH8 a8 hq4 p1 p2 o9
  go_wp2
  refine bodyPost_ret (shut_kl 4 5 _ 0 _ Tryz.results25 (HZ'.out.get 0 rfl) rfl rfl rfl) rfl ?_
  rw [HQ.out, HMC.out.1, HMC.out.2]
  exact ⟨ao, cap, rfl, HSZ.out, HTF.out.2, HTF.out.1, fun a e _ => Nat.le_trans HLE (HAO.out a e), HZ'.out.be⟩
end Go.Proofs.YtacgmadgkmcmoaaGreatDoor
