/- The document's Take of a record among the contents of a segment. -/
import Derived.Test.YthnelnfefllhpaaDoorBh
namespace Go.Proofs.YthnelnfefllhpaaDoor
open Go.RowKit
set_option linter.unusedVariables false
set_option linter.unusedSimpArgs false
set_option maxRecDepth 20000

attribute [local go_sem ↓] ld_dec st_dec ld_u64 st_u64 ld_drecs st_drecs ld_input ld_u8 ld_int ld_bool st_bool bs_dm
attribute [local go_sem] bs_drec
set_option maxHeartbeats 2000000 in
theorem dtk_twice {g n : Nat} {x : Sg} {ao : Option Addr} {cap : Nat} {r : Rc} {w : World} (h : DtC w g n x ao cap) (hf : r.fit) (hk : r.k = 3) (hb : x.b = true) :
    Calls Tryd.prog 21 #[.pointer (some ⟨g, 0, none⟩), .agg (rcs r), .int .u64 (n : Int)] w fun E w' => E = .returned (.int .i64 11) ∧ Below w.heap.size w w' := by
  have g0 : (r.k == 3) = true := beq_iff_eq.2 hk
  have H0 := Lib.hid ((Loc.hold h.blk).more 33 (rcs r))
  have HB := Lib.hid (below_alloc w (.cells (rcs r) 33))
  have HBX := Lib.hid hb
  clear hk hb
  go_enter Tryd.func21, Tryd.ntmps21
  go_upto_region 1 with fail
  generalize w.alloc (.cells (rcs r) 33) = wa at *
  have l0 := H0.out.ldO ty_int 1 rfl 0 (v := .int .i64 r.k) rfl
  have l9 := H0.out.ldO ty_bool 0 rfl 9 (v := .bool true) (by rw [dcs9, HBX.out])
  go_wp2
  go_ret
  exact ⟨rfl, HB.out⟩
set_option maxHeartbeats 2000000 in
theorem dtk_other {g n : Nat} {x : Sg} {ao : Option Addr} {cap : Nat} {r : Rc} {w : World} (h : DtC w g n x ao cap) (hf : r.fit) (hk : r.k = 3) (hb : x.b = false) (hs : r.s ≠ n) :
    Calls Tryd.prog 21 #[.pointer (some ⟨g, 0, none⟩), .agg (rcs r), .int .u64 (n : Int)] w fun E w' => E = .returned (.int .i64 11) ∧ Below w.heap.size w w' := by
  have g0 : (r.k == 3) = true := beq_iff_eq.2 hk
  have g1 : ((r.s : Int) != (n : Int)) = true := bne_iff_ne.2 (by omega)
  have H0 := Lib.hid ((Loc.hold h.blk).more 33 (rcs r))
  have HB := Lib.hid (below_alloc w (.cells (rcs r) 33))
  have HBX := Lib.hid hb
  clear hk hb
  go_enter Tryd.func21, Tryd.ntmps21
  go_upto_region 1 with fail
  generalize w.alloc (.cells (rcs r) 33) = wa at *
  have l0 := H0.out.ldO ty_int 1 rfl 0 (v := .int .i64 r.k) rfl
  have l9 := H0.out.ldO ty_bool 0 rfl 9 (v := .bool false) (by rw [dcs9, HBX.out])
  have l5 := H0.out.ldO ty_u64 1 rfl 5 (v := .int .u64 (r.s : Int)) rfl
  go_wp2
  go_ret
  exact ⟨rfl, HB.out⟩
set_option maxHeartbeats 2000000 in
theorem dtk_none {g n : Nat} {x : Sg} {ao : Option Addr} {cap : Nat} {r : Rc} {w : World} (h : DtC w g n x ao cap) (hf : r.fit) (hk : r.k ≠ 3) (hb : x.b = false) :
    Calls Tryd.prog 21 #[.pointer (some ⟨g, 0, none⟩), .agg (rcs r), .int .u64 (n : Int)] w fun E w' => E = .returned (.int .i64 11) ∧ Below w.heap.size w w' := by
  have g0 : (r.k == 3) = false := beq_eq_false_iff_ne.2 (by omega)
  have H0 := Lib.hid ((Loc.hold h.blk).more 33 (rcs r))
  have HB := Lib.hid (below_alloc w (.cells (rcs r) 33))
  have HBX := Lib.hid hb
  clear hk hb
  go_enter Tryd.func21, Tryd.ntmps21
  go_upto_region 1 with fail
  generalize w.alloc (.cells (rcs r) 33) = wa at *
  have l0 := H0.out.ldO ty_int 1 rfl 0 (v := .int .i64 r.k) rfl
  have l9 := H0.out.ldO ty_bool 0 rfl 9 (v := .bool false) (by rw [dcs9, HBX.out])
  go_wp2
  go_ret
  exact ⟨rfl, HB.out⟩
set_option maxHeartbeats 2000000 in
theorem dtk_head {g n : Nat} {x : Sg} {ao : Option Addr} {cap : Nat} {r : Rc} {w : World} (h : DtC w g n x ao cap) (hf : r.fit) (hk : r.k = 3) (hb : x.b = false) (hs : r.s = n) :
    Calls Tryd.prog 21 #[.pointer (some ⟨g, 0, none⟩), .agg (rcs r), .int .u64 (n : Int)] w fun E w' => E = .returned (.int .i64 0) ∧ Cells w' g 61 (dcs ⟨true, r, x.l, r.i, r.i⟩ ao cap) ∧ Tu (fun k => k = g) w w' := by
  have g0 : (r.k == 3) = true := beq_iff_eq.2 hk
  have g1 : ((r.s : Int) != (n : Int)) = false := by rw [bne_eq_false_iff_eq]; omega
  have H0 := Lib.hid ((Loc.hold h.blk).more 33 (rcs r))
  have HB := Lib.hid (below_alloc w (.cells (rcs r) 33))
  have HBX := Lib.hid hb
  clear hk hb
  go_enter Tryd.func21, Tryd.ntmps21
  go_upto_region 1 with fail
  generalize w.alloc (.cells (rcs r) 33) = wa at *
  have l0 := H0.out.ldO ty_int 1 rfl 0 (v := .int .i64 r.k) rfl
  have l9 := H0.out.ldO ty_bool 0 rfl 9 (v := .bool false) (by rw [dcs9, HBX.out])
  have l5 := H0.out.ldO ty_u64 1 rfl 5 (v := .int .u64 (r.s : Int)) rfl
  go_upto_region 4 with fail
  have l1 := H0.out.ldA ty_dec 1 rfl 0 (vs := rcs r) (by simp [rcs]) (Nat.le_of_ble_eq_true rfl)
  obtain ⟨w1, s1, h1, q1⟩ := H0.out.stA ty_dec 0 rfl 0 (rcs r) (dcs_setHead x ao cap r) (L' := [(g, 61, dcs ⟨x.b, r, x.l, x.c, x.o⟩ ao cap), (w.heap.size, 33, rcs r)]) rfl (by rw [dcs_size]; omega) rfl (List.all_eq_true.2 (rcs_one r))
  obtain ⟨w2, s2, h2, q2⟩ := h1.stO ty_bool 0 rfl 9 (.bool true) (dcs_setB ⟨x.b, r, x.l, x.c, x.o⟩ ao cap true) (L' := [(g, 61, dcs ⟨true, r, x.l, x.c, x.o⟩ ao cap), (w.heap.size, 33, rcs r)]) rfl (by rw [dcs_size]; omega) rfl rfl
  have l6 := h2.ldO ty_u64 1 rfl 6 (v := .int .u64 (r.i : Int)) rfl
  obtain ⟨w3, s3, h3, q3⟩ := h2.stO ty_u64 0 rfl 11 (.int .u64 (r.i : Int)) (dcs_setC ⟨true, r, x.l, x.c, x.o⟩ ao cap r.i) (L' := [(g, 61, dcs ⟨true, r, x.l, r.i, x.o⟩ ao cap), (w.heap.size, 33, rcs r)]) rfl (by rw [dcs_size]; omega) rfl rfl
  have l7 := h3.ldO ty_u64 1 rfl 6 (v := .int .u64 (r.i : Int)) rfl
  obtain ⟨w4, s4, h4, q4⟩ := h3.stO ty_u64 0 rfl 12 (.int .u64 (r.i : Int)) (dcs_setO ⟨true, r, x.l, r.i, x.o⟩ ao cap r.i) (L' := [(g, 61, dcs ⟨true, r, x.l, r.i, r.i⟩ ao cap), (w.heap.size, 33, rcs r)]) rfl (by rw [dcs_size]; omega) rfl rfl
  have H4 := Lib.hid h4
  have T4 := Lib.hid ((((Tu.of_same (g := g) q1).trans (Tu.of_same q2) (fun _ _ h => h)).trans (Tu.of_same q3) (fun _ _ h => h)).trans (Tu.of_same q4) (fun _ _ h => h))
  clear h1 h2 h3 h4 q1 q2 q3 q4
  go_wp2
  go_ret
  exact ⟨rfl, H4.out.get 0 rfl, (Tu.new (S := fun k => k = g) HB.out).trans T4.out (fun _ _ h => h)⟩
set_option maxHeartbeats 2000000 in
theorem dtk_own1 {g n : Nat} {x : Sg} {ao : Option Addr} {cap : Nat} {r : Rc} {w : World} (h : DtC w g n x ao cap) (hf : r.fit) (hk : r.k = 1) (hb : x.b = true) (h1 : r.f ≠ x.o) :
    Calls Tryd.prog 21 #[.pointer (some ⟨g, 0, none⟩), .agg (rcs r), .int .u64 (n : Int)] w fun E w' => E = .returned (.int .i64 11) ∧ Below w.heap.size w w' := by
  have g0 : (r.k == 3) = false := beq_eq_false_iff_ne.2 (by omega)
  have g01 : (r.k == 1) = true := beq_iff_eq.2 hk
  have g1 : ((r.f : Int) != (x.o : Int)) = true := bne_iff_ne.2 (by omega)
  have H0 := Lib.hid ((Loc.hold h.blk).more 33 (rcs r))
  have HB := Lib.hid (below_alloc w (.cells (rcs r) 33))
  have HBX := Lib.hid hb
  clear hk hb
  go_enter Tryd.func21, Tryd.ntmps21
  go_upto_region 1 with fail
  generalize w.alloc (.cells (rcs r) 33) = wa at *
  have l0 := H0.out.ldO ty_int 1 rfl 0 (v := .int .i64 r.k) rfl
  have l9 := H0.out.ldO ty_bool 0 rfl 9 (v := .bool true) (by rw [dcs9, HBX.out])
  go_upto_region 12 with fail
  have H1 : Hid (∀ k, Loc g w (wa.drewN k) [(g, 61, dcs x ao cap), (w.heap.size, 33, rcs r)]) := fun k => H0.out.to (below_drewN (Below.refl _ _) k)
  clear l0 l9
  have l1 := fun k => (H1.out k).ldO ty_u64 1 rfl 1 (v := .int .u64 (r.f : Int)) rfl
  have l11 := fun k => (H1.out k).ldO ty_u64 0 rfl 11 (v := .int .u64 (x.c : Int)) (dcs11 x ao cap)
  have l12 := fun k => (H1.out k).ldO ty_u64 0 rfl 12 (v := .int .u64 (x.o : Int)) (dcs12 x ao cap)
  go_quiet (fail)
  go_wp2
  go_ret
  exact ⟨rfl, below_drewN HB.out nq⟩
set_option maxHeartbeats 2000000 in
theorem dtk_own2 {g n : Nat} {x : Sg} {ao : Option Addr} {cap : Nat} {r : Rc} {w : World} (h : DtC w g n x ao cap) (hf : r.fit) (hk : r.k = 1) (hb : x.b = true) (h1 : r.f = x.o) (h2 : 12 ≤ x.o - x.c) :
    Calls Tryd.prog 21 #[.pointer (some ⟨g, 0, none⟩), .agg (rcs r), .int .u64 (n : Int)] w fun E w' => E = .returned (.int .i64 11) ∧ Below w.heap.size w w' := by
  have hco := h.okg.co
  have hoc := h.okg.oc
  have ho6 := h.okg.o64
  have hfr := hf.f
  obtain ⟨d, hd, hdv⟩ : ∃ d : Nat, IntKind.u64.wrap ((x.o : Int) - (x.c : Int)) = (d : Int) ∧ d = x.o - x.c := ⟨x.o - x.c, by rw [IntWalk.u64_in _ (by omega)]; omega, rfl⟩
  have g0 : (r.k == 3) = false := beq_eq_false_iff_ne.2 (by omega)
  have g01 : (r.k == 1) = true := beq_iff_eq.2 hk
  have g1 : ((r.f : Int) != (x.o : Int)) = false := by rw [bne_eq_false_iff_eq]; omega
  have g2 : (12 : Int) ≤ (d : Int) := by omega
  have g3 : decide ((12 : Int) ≤ (d : Int)) = true := decide_eq_true g2
  clear hco hoc ho6 hfr hf h1 h2 hdv
  have H0 := Lib.hid ((Loc.hold h.blk).more 33 (rcs r))
  have HB := Lib.hid (below_alloc w (.cells (rcs r) 33))
  have HBX := Lib.hid hb
  clear hk hb
  go_enter Tryd.func21, Tryd.ntmps21
  go_upto_region 1 with fail
  generalize w.alloc (.cells (rcs r) 33) = wa at *
  have l0 := H0.out.ldO ty_int 1 rfl 0 (v := .int .i64 r.k) rfl
  have l9 := H0.out.ldO ty_bool 0 rfl 9 (v := .bool true) (by rw [dcs9, HBX.out])
  go_upto_region 12 with fail
  have H1 : Hid (∀ k, Loc g w (wa.drewN k) [(g, 61, dcs x ao cap), (w.heap.size, 33, rcs r)]) := fun k => H0.out.to (below_drewN (Below.refl _ _) k)
  clear l0 l9
  have l1 := fun k => (H1.out k).ldO ty_u64 1 rfl 1 (v := .int .u64 (r.f : Int)) rfl
  have l11 := fun k => (H1.out k).ldO ty_u64 0 rfl 11 (v := .int .u64 (x.c : Int)) (dcs11 x ao cap)
  have l12 := fun k => (H1.out k).ldO ty_u64 0 rfl 12 (v := .int .u64 (x.o : Int)) (dcs12 x ao cap)
  go_quiet (fail)
  go_wp2
  go_ret
  exact ⟨rfl, below_drewN HB.out nq⟩
set_option maxHeartbeats 2000000 in
theorem dtk_own3 {g n : Nat} {x : Sg} {ao : Option Addr} {cap : Nat} {r : Rc} {w : World} (h : DtC w g n x ao cap) (hf : r.fit) (hk : r.k = 1) (hb : x.b = true) (h1 : r.f = x.o) (h2 : x.o - x.c < 12) (h3 : r.f = 18446744073709551615) :
    Calls Tryd.prog 21 #[.pointer (some ⟨g, 0, none⟩), .agg (rcs r), .int .u64 (n : Int)] w fun E w' => E = .returned (.int .i64 11) ∧ Below w.heap.size w w' := by
  have hco := h.okg.co
  have hoc := h.okg.oc
  have ho6 := h.okg.o64
  have hfr := hf.f
  obtain ⟨d, hd, hdv⟩ : ∃ d : Nat, IntKind.u64.wrap ((x.o : Int) - (x.c : Int)) = (d : Int) ∧ d = x.o - x.c := ⟨x.o - x.c, by rw [IntWalk.u64_in _ (by omega)]; omega, rfl⟩
  have g0 : (r.k == 3) = false := beq_eq_false_iff_ne.2 (by omega)
  have g01 : (r.k == 1) = true := beq_iff_eq.2 hk
  have g1 : ((r.f : Int) != (x.o : Int)) = false := by rw [bne_eq_false_iff_eq]; omega
  have g2 : ¬ (12 : Int) ≤ (d : Int) := by omega
  have g3 : decide ((12 : Int) ≤ (d : Int)) = false := decide_eq_false g2
  have g4 : ((r.f : Int) == 18446744073709551615) = true := beq_iff_eq.2 (by omega)
  clear hco hoc ho6 hfr hf h1 h2 h3 hdv
  have H0 := Lib.hid ((Loc.hold h.blk).more 33 (rcs r))
  have HB := Lib.hid (below_alloc w (.cells (rcs r) 33))
  have HBX := Lib.hid hb
  clear hk hb
  go_enter Tryd.func21, Tryd.ntmps21
  go_upto_region 1 with fail
  generalize w.alloc (.cells (rcs r) 33) = wa at *
  have l0 := H0.out.ldO ty_int 1 rfl 0 (v := .int .i64 r.k) rfl
  have l9 := H0.out.ldO ty_bool 0 rfl 9 (v := .bool true) (by rw [dcs9, HBX.out])
  go_upto_region 12 with fail
  have H1 : Hid (∀ k, Loc g w (wa.drewN k) [(g, 61, dcs x ao cap), (w.heap.size, 33, rcs r)]) := fun k => H0.out.to (below_drewN (Below.refl _ _) k)
  clear l0 l9
  have l1 := fun k => (H1.out k).ldO ty_u64 1 rfl 1 (v := .int .u64 (r.f : Int)) rfl
  have l11 := fun k => (H1.out k).ldO ty_u64 0 rfl 11 (v := .int .u64 (x.c : Int)) (dcs11 x ao cap)
  have l12 := fun k => (H1.out k).ldO ty_u64 0 rfl 12 (v := .int .u64 (x.o : Int)) (dcs12 x ao cap)
  go_quiet (fail)
  go_wp2
  go_ret
  exact ⟨rfl, below_drewN HB.out nq⟩
set_option maxHeartbeats 2000000 in
theorem dtk_own {g n : Nat} {x : Sg} {ao : Option Addr} {cap : Nat} {r : Rc} {w : World} (h : DtC w g n x ao cap) (hf : r.fit) (hk : r.k = 1) (hb : x.b = true) (h1 : r.f = x.o) (h2 : x.o - x.c < 12) (h3 : r.f ≠ 18446744073709551615) (hfw : x.l.length < 1000000) :
    Calls Tryd.prog 21 #[.pointer (some ⟨g, 0, none⟩), .agg (rcs r), .int .u64 (n : Int)] w fun E w' => E = .returned (.int .i64 0) ∧ ∃ a' c', Cells w' g 61 (dcs ⟨x.b, x.h, x.l ++ [r], x.c, (x.o + 1)⟩ a' c') ∧ w'.ownsRow (g + 1) 33 9 (.slice a' (x.l ++ [r]).length c') (x.l ++ [r]).length (Rall (x.l ++ [r])) ∧ Below g w w' := by
  have hco := h.okg.co
  have hoc := h.okg.oc
  have ho6 := h.okg.o64
  have hfr := hf.f
  obtain ⟨d, hd, hdv⟩ : ∃ d : Nat, IntKind.u64.wrap ((x.o : Int) - (x.c : Int)) = (d : Int) ∧ d = x.o - x.c := ⟨x.o - x.c, by rw [IntWalk.u64_in _ (by omega)]; omega, rfl⟩
  obtain ⟨o1, ho1, ho1v⟩ : ∃ o1 : Nat, IntKind.u64.wrap ((x.o : Int) + 1) = (o1 : Int) ∧ o1 = x.o + 1 := ⟨x.o + 1, by rw [IntWalk.u64_in _ (by omega)]; omega, rfl⟩
  rw [← ho1v]
  have g0 : (r.k == 3) = false := beq_eq_false_iff_ne.2 (by omega)
  have g01 : (r.k == 1) = true := beq_iff_eq.2 hk
  have g1 : ((r.f : Int) != (x.o : Int)) = false := by rw [bne_eq_false_iff_eq]; omega
  have g2 : ¬ (12 : Int) ≤ (d : Int) := by omega
  have g3 : decide ((12 : Int) ≤ (d : Int)) = false := decide_eq_false g2
  have g4 : ((r.f : Int) == 18446744073709551615) = false := beq_eq_false_iff_ne.2 (by omega)
  clear hco hoc ho6 hfr hf h1 h2 h3 hdv ho1v
  have H0 := Lib.hid ((Loc.hold h.blk).more 33 (rcs r))
  have HB := Lib.hid (below_alloc w (.cells (rcs r) 33))
  have HBX := Lib.hid hb
  have HR0 : Hid (Rcr 33 (g + 1) (w.alloc (.cells (rcs r) 33)) [g, w.heap.size] ao x.l.length cap x.l) := h.rcr.fresh (below_alloc w _) (Nat.le_refl _) (by simp)
  have hgs : Hid (g + 1 ≤ w.heap.size) := h.blk.lt
  have hfew := Lib.hid hfw
  clear hk hb
  go_enter Tryd.func21, Tryd.ntmps21
  go_upto_region 1 with fail
  generalize w.alloc (.cells (rcs r) 33) = wa at *
  have l0 := H0.out.ldO ty_int 1 rfl 0 (v := .int .i64 r.k) rfl
  have l9 := H0.out.ldO ty_bool 0 rfl 9 (v := .bool true) (by rw [dcs9, HBX.out])
  go_upto_region 12 with fail
  have H1 : Hid (∀ k, Loc g w (wa.drewN k) [(g, 61, dcs x ao cap), (w.heap.size, 33, rcs r)]) := fun k => H0.out.to (below_drewN (Below.refl _ _) k)
  clear l0 l9
  have l1 := fun k => (H1.out k).ldO ty_u64 1 rfl 1 (v := .int .u64 (r.f : Int)) rfl
  have l11 := fun k => (H1.out k).ldO ty_u64 0 rfl 11 (v := .int .u64 (x.c : Int)) (dcs11 x ao cap)
  have l12 := fun k => (H1.out k).ldO ty_u64 0 rfl 12 (v := .int .u64 (x.o : Int)) (dcs12 x ao cap)
  go_quiet (fail)
  clear g0 g01 g1 g2 g3 g4 hd
  clear l1 l11 l12
  have H2 := Lib.hid (H1.out nq)
  have HR2 := Lib.hid (HR0.out.to (below_drewN (Below.refl _ _) nq))
  have HB2 := Lib.hid (below_drewN HB.out nq)
  clear H0 H1 HR0 HB
  generalize wa.drewN nq = wb at *
  go_upto_region 14 with fail
  have l12 := H2.out.ldO ty_u64 0 rfl 12 (v := .int .u64 (x.o : Int)) (dcs12 x ao cap)
  obtain ⟨w5, s5, h5, q5⟩ := H2.out.stO ty_u64 0 rfl 12 (.int .u64 (o1 : Int)) (dcs_setO x ao cap o1) (L' := [(g, 61, dcs ⟨x.b, x.h, x.l, x.c, o1⟩ ao cap), (w.heap.size, 33, rcs r)]) rfl (by rw [dcs_size]; omega) rfl rfl
  have H5 := Lib.hid h5
  have HR5 := Lib.hid (HR2.out.turn (by simp) q5)
  clear h5 q5
  go_upto_region 15 with fail
  clear l12 s5 ho1 H2 HR2
  have a1 := fun W (hW : Cells W g 61 (dcs ⟨x.b, x.h, x.l, x.c, o1⟩ ao cap)) => run_ldO ty_drecs hW 10 (dcs10 ⟨x.b, x.h, x.l, x.c, o1⟩ ao cap)
  have a2 := fun W (hW : Cells W w.heap.size 33 (rcs r)) => run_ldA ty_dec hW 0 (Nat.le_of_ble_eq_true rfl)
  have e0 : (((rcs r).toList.drop 0).take 9).toArray = rcs r := by simp [rcs]
  simp only [e0] at a2
  clear e0
  have HX := Lib.hid (H5.out.drew)
  have HRX := Lib.hid (HR5.out.to (Below.refl _ w5).drew)
  have o0 := (⟨HX.out.get 0 rfl, HX.out.get 1 rfl⟩ : Cells w5.drew g 61 (dcs ⟨x.b, x.h, x.l, x.c, o1⟩ ao cap) ∧ Cells w5.drew w.heap.size 33 (rcs r))
  refine wp_region_till (S := fun W => Cells W g 61 (dcs ⟨x.b, x.h, x.l, x.c, o1⟩ ao cap) ∧ Cells W w.heap.size 33 (rcs r)) (by kernel_rfl) ?_
  refine wpTill_take (i := 0) (v := ?vdo0) rfl (by kernel_rfl) (fun _ _ _ h => h) (Or.inl ⟨by rfl, ?hydo0⟩) o0 ?restdo0
  case hydo0 => (intro W hW; (try dsimp only at hW); go_simp; try with_reducible rfl)
  simp only [Act.put, List.setIfInBounds_toArray, List.set_cons_zero, List.set_cons_succ, List.getElem_toArray, List.getElem_cons_succ, List.getElem_cons_zero]
  refine wpTill_take (i := 1) (v := ?vdo1) rfl (by kernel_rfl) (fun _ _ _ h => h) (Or.inl ⟨by rfl, ?hydo1⟩) o0 ?restdo1
  case hydo1 => (intro W hW; (try dsimp only at hW); go_simp; try with_reducible rfl)
  simp only [Act.put, List.setIfInBounds_toArray, List.set_cons_zero, List.set_cons_succ, List.getElem_toArray, List.getElem_cons_succ, List.getElem_cons_zero]
  refine wpTill_take (i := 2) (v := ?vdo2) rfl (by kernel_rfl) (fun _ _ _ h => h) (Or.inl ⟨by rfl, ?hydo2⟩) o0 ?restdo2
  case hydo2 => (intro W hW; (try dsimp only at hW); go_simp; try with_reducible rfl)
  simp only [Act.put, List.setIfInBounds_toArray, List.set_cons_zero, List.set_cons_succ, List.getElem_toArray, List.getElem_cons_succ, List.getElem_cons_zero]
  refine wpTill_take (i := 3) (v := ?vdo3) rfl (by kernel_rfl) (fun _ _ _ h => h) (Or.inl ⟨by rfl, ?hydo3⟩) o0 ?restdo3
  case hydo3 => (intro W hW; (try dsimp only at hW); go_simp; try with_reducible rfl)
  simp only [Act.put, List.setIfInBounds_toArray, List.set_cons_zero, List.set_cons_succ, List.getElem_toArray, List.getElem_cons_succ, List.getElem_cons_zero]
  refine wpTill_take (i := 4) (v := ?vdo4) rfl (by kernel_rfl) (fun _ _ _ h => h) (Or.inl ⟨by rfl, ?hydo4⟩) o0 ?restdo4
  case hydo4 => (intro W hW; (try dsimp only at hW); go_simp; try with_reducible rfl)
  simp only [Act.put, List.setIfInBounds_toArray, List.set_cons_zero, List.set_cons_succ, List.getElem_toArray, List.getElem_cons_succ, List.getElem_cons_zero]
  refine wpTill_take (i := 5) (v := ?vdo5) rfl (by kernel_rfl) (fun _ _ _ h => h) (Or.inl ⟨by rfl, ?hydo5⟩) o0 ?restdo5
  case hydo5 => (intro W hW; (try dsimp only at hW); go_simp; try with_reducible rfl)
  simp only [Act.put, List.setIfInBounds_toArray, List.set_cons_zero, List.set_cons_succ, List.getElem_toArray, List.getElem_cons_succ, List.getElem_cons_zero]
  refine wpTill_run (i := 6) (by kernel_rfl) rfl o0 (fun K hK => ?_)
  go_simp
  have o6 := (⟨(HX.out.more 33 (rcs r)).get 0 rfl, (HX.out.more 33 (rcs r)).get 1 rfl⟩ : Cells (w5.drew.alloc (.cells (rcs r) 33)) g 61 (dcs ⟨x.b, x.h, x.l, x.c, o1⟩ ao cap) ∧ Cells (w5.drew.alloc (.cells (rcs r) 33)) w.heap.size 33 (rcs r))
  refine hK _ _ ?_
  clear hK K
  refine wpTill_run (i := 7) (by kernel_rfl) rfl o6 (fun K hK => ?_)
  refine step_append_rec Tryd.underlying34 info_drec rfl _ _ rfl (by simp [Act.eval]) r (by simp [Act.eval]) HRX.out HX.out (Nat.le_succ g) (by have := HX.out.be.size; have := hgs.out; omega) (by simp) (Nat.le_of_lt hfew.out) ?_
  intro r7 cap7 w7 hR7 hL7
  have HR7 := Lib.hid hR7
  have HL7 := Lib.hid hL7
  have o7 := (⟨HL7.out.get 0 rfl, HL7.out.get 1 rfl⟩ : Cells w7 g 61 (dcs ⟨x.b, x.h, x.l, x.c, o1⟩ ao cap) ∧ Cells w7 w.heap.size 33 (rcs r))
  clear hR7 hL7
  refine hK _ _ ?_
  clear hK K
  refine wpTill_run (i := 8) (by kernel_rfl) rfl o7 (fun K hK => ?_)
  go_simp
  refine hK _ _ ?_
  clear hK K
  refine wpTill_run (i := 9) (by kernel_rfl) rfl o7 (fun K hK => ?_)
  go_simp
  refine hK _ _ ?_
  clear hK K
  refine wpTill_run (i := 10) (by kernel_rfl) rfl o7 (fun K hK => ?_)
  obtain ⟨w8, s8, H8, q8⟩ := HL7.out.stO ty_drecs 0 rfl 10 (.slice (some ⟨r7, 0, none⟩) (x.l.length + 1) cap7) (dcs_setL ⟨x.b, x.h, x.l, x.c, o1⟩ ao cap (x.l ++ [r]) (some ⟨r7, 0, none⟩) cap7 (x.l.length + 1) (by simp)) (L' := [(g, 61, dcs ⟨x.b, x.h, x.l ++ [r], x.c, o1⟩ (some ⟨r7, 0, none⟩) cap7), (w.heap.size, 33, rcs r)]) rfl (by rw [dcs_size]; omega) rfl rfl
  go_simp
  refine hK _ _ ?_
  clear hK K
  refine wpTill_done (by kernel_rfl) ?_
  clear a1 a2 o0 o6 o7 s8
  have H9 := Lib.hid H8
  have R9 := Lib.hid (HR7.out.turn (by simp) q8)
  clear H8 q8 HR7 HL7 HX HRX
  go_wp2
  go_ret
  refine ⟨rfl, some ⟨r7, 0, none⟩, cap7, H9.out.get 0 rfl, ?_, H9.out.be⟩
  have h9 := R9.out.own
  rw [show x.l.length + 1 = (x.l ++ [r]).length by simp] at h9
  exact h9
set_option maxHeartbeats 2000000 in
theorem dtk_sure1 {g n : Nat} {x : Sg} {ao : Option Addr} {cap : Nat} {r : Rc} {w : World} (h : DtC w g n x ao cap) (hf : r.fit) (hk : r.k = 2) (hb : x.b = true) (h1 : r.f ≠ x.c) :
    Calls Tryd.prog 21 #[.pointer (some ⟨g, 0, none⟩), .agg (rcs r), .int .u64 (n : Int)] w fun E w' => E = .returned (.int .i64 11) ∧ Below w.heap.size w w' := by
  have g0 : (r.k == 3) = false := beq_eq_false_iff_ne.2 (by omega)
  have g01 : (r.k == 1) = false := beq_eq_false_iff_ne.2 (by omega)
  have g1 : ((r.f : Int) != (x.c : Int)) = true := bne_iff_ne.2 (by omega)
  have H0 := Lib.hid ((Loc.hold h.blk).more 33 (rcs r))
  have HB := Lib.hid (below_alloc w (.cells (rcs r) 33))
  have HBX := Lib.hid hb
  clear hk hb
  go_enter Tryd.func21, Tryd.ntmps21
  go_upto_region 1 with fail
  generalize w.alloc (.cells (rcs r) 33) = wa at *
  have l0 := H0.out.ldO ty_int 1 rfl 0 (v := .int .i64 r.k) rfl
  have l9 := H0.out.ldO ty_bool 0 rfl 9 (v := .bool true) (by rw [dcs9, HBX.out])
  go_upto_region 17 with fail
  have H1 : Hid (∀ k, Loc g w (wa.drewN k) [(g, 61, dcs x ao cap), (w.heap.size, 33, rcs r)]) := fun k => H0.out.to (below_drewN (Below.refl _ _) k)
  clear l0 l9
  have l1 := fun k => (H1.out k).ldO ty_u64 1 rfl 1 (v := .int .u64 (r.f : Int)) rfl
  have l11 := fun k => (H1.out k).ldO ty_u64 0 rfl 11 (v := .int .u64 (x.c : Int)) (dcs11 x ao cap)
  have l12 := fun k => (H1.out k).ldO ty_u64 0 rfl 12 (v := .int .u64 (x.o : Int)) (dcs12 x ao cap)
  go_quiet (fail)
  go_wp2
  go_ret
  exact ⟨rfl, below_drewN HB.out nq⟩
set_option maxHeartbeats 2000000 in
theorem dtk_sure2 {g n : Nat} {x : Sg} {ao : Option Addr} {cap : Nat} {r : Rc} {w : World} (h : DtC w g n x ao cap) (hf : r.fit) (hk : r.k = 2) (hb : x.b = true) (h1 : r.f = x.c) (h2 : x.o ≤ x.c) :
    Calls Tryd.prog 21 #[.pointer (some ⟨g, 0, none⟩), .agg (rcs r), .int .u64 (n : Int)] w fun E w' => E = .returned (.int .i64 11) ∧ Below w.heap.size w w' := by
  have g0 : (r.k == 3) = false := beq_eq_false_iff_ne.2 (by omega)
  have g01 : (r.k == 1) = false := beq_eq_false_iff_ne.2 (by omega)
  have g1 : ((r.f : Int) != (x.c : Int)) = false := by rw [bne_eq_false_iff_eq]; omega
  have g2 : (x.o : Int) ≤ (x.c : Int) := by omega
  have g3 : decide ((x.o : Int) ≤ (x.c : Int)) = true := decide_eq_true g2
  have H0 := Lib.hid ((Loc.hold h.blk).more 33 (rcs r))
  have HB := Lib.hid (below_alloc w (.cells (rcs r) 33))
  have HBX := Lib.hid hb
  clear hk hb
  go_enter Tryd.func21, Tryd.ntmps21
  go_upto_region 1 with fail
  generalize w.alloc (.cells (rcs r) 33) = wa at *
  have l0 := H0.out.ldO ty_int 1 rfl 0 (v := .int .i64 r.k) rfl
  have l9 := H0.out.ldO ty_bool 0 rfl 9 (v := .bool true) (by rw [dcs9, HBX.out])
  go_upto_region 17 with fail
  have H1 : Hid (∀ k, Loc g w (wa.drewN k) [(g, 61, dcs x ao cap), (w.heap.size, 33, rcs r)]) := fun k => H0.out.to (below_drewN (Below.refl _ _) k)
  clear l0 l9
  have l1 := fun k => (H1.out k).ldO ty_u64 1 rfl 1 (v := .int .u64 (r.f : Int)) rfl
  have l11 := fun k => (H1.out k).ldO ty_u64 0 rfl 11 (v := .int .u64 (x.c : Int)) (dcs11 x ao cap)
  have l12 := fun k => (H1.out k).ldO ty_u64 0 rfl 12 (v := .int .u64 (x.o : Int)) (dcs12 x ao cap)
  go_quiet (fail)
  go_wp2
  go_ret
  exact ⟨rfl, below_drewN HB.out nq⟩
set_option maxHeartbeats 2000000 in
theorem dtk_clash_0 {g n : Nat} {x : Sg} {ao : Option Addr} {cap : Nat} {r : Rc} {w : World} (h : DtC w g n x ao cap) (hf : r.fit) (hk : r.k = 2) (hb : x.b = true) (h1 : r.f = x.c) (h2 : x.c < x.o) (hy : x.h.y = 0) (h3 : r.p ≠ inp x.l r.f) (hfw : x.l.length < 1000000) :
    Calls Tryd.prog 21 #[.pointer (some ⟨g, 0, none⟩), .agg (rcs r), .int .u64 (n : Int)] w fun E w' => E = .returned (.int .i64 14) ∧ Below w.heap.size w w' := by
  have ho6 := h.okg.o64
  have g5 : ((r.p : Int) != (inp x.l r.f : Int)) = true := by rw [bne_iff_ne]; omega
  have HI : Hid (∀ w', DtC w' g n x ao cap → Calls Tryd.prog 31 #[.pointer (some ⟨g, 0, none⟩), .int .u64 (r.f : Int)] w' fun E w2 => E = .returned (.int .u8 (inp x.l r.f : Int)) ∧ w' = w2) := fun w' h' => dinput_c r.f w' h'
  obtain ⟨k, hk5⟩ : ∃ k, k = inp x.l r.f := ⟨_, rfl⟩
  rw [← hk5] at HI g5
  clear hk5
  have HY := Lib.hid hy
  have HDT := Lib.hid h
  have g0 : (r.k == 3) = false := beq_eq_false_iff_ne.2 (by omega)
  have g01 : (r.k == 1) = false := beq_eq_false_iff_ne.2 (by omega)
  have g1 : ((r.f : Int) != (x.c : Int)) = false := by rw [bne_eq_false_iff_eq]; omega
  have g2 : ¬ (x.o : Int) ≤ (x.c : Int) := by omega
  have g3 : decide ((x.o : Int) ≤ (x.c : Int)) = false := decide_eq_false g2
  clear h1 h2 h3 hy ho6 hf
  have H0 := Lib.hid ((Loc.hold h.blk).more 33 (rcs r))
  have HB := Lib.hid (below_alloc w (.cells (rcs r) 33))
  have HBX := Lib.hid hb
  have HR0 : Hid (Rcr 33 (g + 1) (w.alloc (.cells (rcs r) 33)) [g, w.heap.size] ao x.l.length cap x.l) := h.rcr.fresh (below_alloc w _) (Nat.le_refl _) (by simp)
  have hgs : Hid (g + 1 ≤ w.heap.size) := h.blk.lt
  have hfew := Lib.hid hfw
  clear hk hb
  go_enter Tryd.func21, Tryd.ntmps21
  go_upto_region 1 with fail
  generalize w.alloc (.cells (rcs r) 33) = wa at *
  have HDA := Lib.hid (HDT.out.to HB.out)
  have l0 := H0.out.ldO ty_int 1 rfl 0 (v := .int .i64 r.k) rfl
  have l9 := H0.out.ldO ty_bool 0 rfl 9 (v := .bool true) (by rw [dcs9, HBX.out])
  go_upto_region 17 with fail
  have H1 : Hid (∀ k, Loc g w (wa.drewN k) [(g, 61, dcs x ao cap), (w.heap.size, 33, rcs r)]) := fun k => H0.out.to (below_drewN (Below.refl _ _) k)
  clear l0 l9
  have l1 := fun k => (H1.out k).ldO ty_u64 1 rfl 1 (v := .int .u64 (r.f : Int)) rfl
  have l11 := fun k => (H1.out k).ldO ty_u64 0 rfl 11 (v := .int .u64 (x.c : Int)) (dcs11 x ao cap)
  have l12 := fun k => (H1.out k).ldO ty_u64 0 rfl 12 (v := .int .u64 (x.o : Int)) (dcs12 x ao cap)
  go_quiet (fail)
  clear g0 g01 g1 g2 g3
  clear l1 l11 l12
  have H2 := Lib.hid (H1.out nq)
  have HR2 := Lib.hid (HR0.out.to (below_drewN (Below.refl _ _) nq))
  have HB2 := Lib.hid (below_drewN HB.out nq)
  have HD2 := Lib.hid (HDA.out.to (below_drewN (Below.refl _ _) nq))
  clear HDA
  clear H0 H1 HR0 HB
  generalize wa.drewN nq = wb at *
  go_upto_region 19 with fail
  have H3 : Hid (∀ k, Loc g w (wb.drewN k) [(g, 61, dcs x ao cap), (w.heap.size, 33, rcs r)]) := fun k => H2.out.to (below_drewN (Below.refl _ _) k)
  have l1 := fun k => (H3.out k).ldO ty_u64 1 rfl 1 (v := .int .u64 (r.f : Int)) rfl
  have l2 := fun k => (H3.out k).ldO ty_u8 0 rfl 8 (v := .int .u8 0) (by rw [dcs8, HY.out]; rfl)
  have l3 := fun k => (H3.out k).ldO ty_input 1 rfl 3 (v := .int .u8 (r.p : Int)) rfl
  have HC : Hid (∀ m, Calls Tryd.prog 31 #[.pointer (some ⟨g, 0, none⟩), .int .u64 (r.f : Int)] (wb.drewN m) fun E w' => E = .returned (.int .u8 (k : Int)) ∧ wb.drewN m = w') := fun m => HI.out _ (HD2.out.to (below_drewN (Below.refl _ _) m))
  clear HI
  go_quiet (first | (go_at_call 31; exact Calls.quiet_of_same ((HC.out _).mono fun _ _ hh => ⟨hh.1, hh.2.symm⟩)))
  go_wp2
  go_ret
  exact ⟨rfl, below_drewN HB2.out nq⟩
set_option maxHeartbeats 2000000 in
theorem dtk_clash_1 {g n : Nat} {x : Sg} {ao : Option Addr} {cap : Nat} {r : Rc} {w : World} (h : DtC w g n x ao cap) (hf : r.fit) (hk : r.k = 2) (hb : x.b = true) (h1 : r.f = x.c) (h2 : x.c < x.o) (hy : x.h.y = 1) (h3 : r.q ≠ inp x.l r.f) (hfw : x.l.length < 1000000) :
    Calls Tryd.prog 21 #[.pointer (some ⟨g, 0, none⟩), .agg (rcs r), .int .u64 (n : Int)] w fun E w' => E = .returned (.int .i64 14) ∧ Below w.heap.size w w' := by
  have ho6 := h.okg.o64
  have g5 : ((r.q : Int) != (inp x.l r.f : Int)) = true := by rw [bne_iff_ne]; omega
  have HI : Hid (∀ w', DtC w' g n x ao cap → Calls Tryd.prog 31 #[.pointer (some ⟨g, 0, none⟩), .int .u64 (r.f : Int)] w' fun E w2 => E = .returned (.int .u8 (inp x.l r.f : Int)) ∧ w' = w2) := fun w' h' => dinput_c r.f w' h'
  obtain ⟨k, hk5⟩ : ∃ k, k = inp x.l r.f := ⟨_, rfl⟩
  rw [← hk5] at HI g5
  clear hk5
  have HY := Lib.hid hy
  have HDT := Lib.hid h
  have g0 : (r.k == 3) = false := beq_eq_false_iff_ne.2 (by omega)
  have g01 : (r.k == 1) = false := beq_eq_false_iff_ne.2 (by omega)
  have g1 : ((r.f : Int) != (x.c : Int)) = false := by rw [bne_eq_false_iff_eq]; omega
  have g2 : ¬ (x.o : Int) ≤ (x.c : Int) := by omega
  have g3 : decide ((x.o : Int) ≤ (x.c : Int)) = false := decide_eq_false g2
  clear h1 h2 h3 hy ho6 hf
  have H0 := Lib.hid ((Loc.hold h.blk).more 33 (rcs r))
  have HB := Lib.hid (below_alloc w (.cells (rcs r) 33))
  have HBX := Lib.hid hb
  have HR0 : Hid (Rcr 33 (g + 1) (w.alloc (.cells (rcs r) 33)) [g, w.heap.size] ao x.l.length cap x.l) := h.rcr.fresh (below_alloc w _) (Nat.le_refl _) (by simp)
  have hgs : Hid (g + 1 ≤ w.heap.size) := h.blk.lt
  have hfew := Lib.hid hfw
  clear hk hb
  go_enter Tryd.func21, Tryd.ntmps21
  go_upto_region 1 with fail
  generalize w.alloc (.cells (rcs r) 33) = wa at *
  have HDA := Lib.hid (HDT.out.to HB.out)
  have l0 := H0.out.ldO ty_int 1 rfl 0 (v := .int .i64 r.k) rfl
  have l9 := H0.out.ldO ty_bool 0 rfl 9 (v := .bool true) (by rw [dcs9, HBX.out])
  go_upto_region 17 with fail
  have H1 : Hid (∀ k, Loc g w (wa.drewN k) [(g, 61, dcs x ao cap), (w.heap.size, 33, rcs r)]) := fun k => H0.out.to (below_drewN (Below.refl _ _) k)
  clear l0 l9
  have l1 := fun k => (H1.out k).ldO ty_u64 1 rfl 1 (v := .int .u64 (r.f : Int)) rfl
  have l11 := fun k => (H1.out k).ldO ty_u64 0 rfl 11 (v := .int .u64 (x.c : Int)) (dcs11 x ao cap)
  have l12 := fun k => (H1.out k).ldO ty_u64 0 rfl 12 (v := .int .u64 (x.o : Int)) (dcs12 x ao cap)
  go_quiet (fail)
  clear g0 g01 g1 g2 g3
  clear l1 l11 l12
  have H2 := Lib.hid (H1.out nq)
  have HR2 := Lib.hid (HR0.out.to (below_drewN (Below.refl _ _) nq))
  have HB2 := Lib.hid (below_drewN HB.out nq)
  have HD2 := Lib.hid (HDA.out.to (below_drewN (Below.refl _ _) nq))
  clear HDA
  clear H0 H1 HR0 HB
  generalize wa.drewN nq = wb at *
  go_upto_region 19 with fail
  have H3 : Hid (∀ k, Loc g w (wb.drewN k) [(g, 61, dcs x ao cap), (w.heap.size, 33, rcs r)]) := fun k => H2.out.to (below_drewN (Below.refl _ _) k)
  have l1 := fun k => (H3.out k).ldO ty_u64 1 rfl 1 (v := .int .u64 (r.f : Int)) rfl
  have l2 := fun k => (H3.out k).ldO ty_u8 0 rfl 8 (v := .int .u8 1) (by rw [dcs8, HY.out]; rfl)
  have l3 := fun k => (H3.out k).ldO ty_input 1 rfl 4 (v := .int .u8 (r.q : Int)) rfl
  have HC : Hid (∀ m, Calls Tryd.prog 31 #[.pointer (some ⟨g, 0, none⟩), .int .u64 (r.f : Int)] (wb.drewN m) fun E w' => E = .returned (.int .u8 (k : Int)) ∧ wb.drewN m = w') := fun m => HI.out _ (HD2.out.to (below_drewN (Below.refl _ _) m))
  clear HI
  go_quiet (first | (go_at_call 31; exact Calls.quiet_of_same ((HC.out _).mono fun _ _ hh => ⟨hh.1, hh.2.symm⟩)))
  go_wp2
  go_ret
  exact ⟨rfl, below_drewN HB2.out nq⟩
set_option maxHeartbeats 2000000 in
theorem dtk_sure_0 {g n : Nat} {x : Sg} {ao : Option Addr} {cap : Nat} {r : Rc} {w : World} (h : DtC w g n x ao cap) (hf : r.fit) (hk : r.k = 2) (hb : x.b = true) (h1 : r.f = x.c) (h2 : x.c < x.o) (hy : x.h.y = 0) (h3 : r.p = inp x.l r.f) (hfw : x.l.length < 1000000) :
    Calls Tryd.prog 21 #[.pointer (some ⟨g, 0, none⟩), .agg (rcs r), .int .u64 (n : Int)] w fun E w' => E = .returned (.int .i64 0) ∧ ∃ a' c', Cells w' g 61 (dcs ⟨x.b, x.h, x.l ++ [r], (x.c + 1), x.o⟩ a' c') ∧ w'.ownsRow (g + 1) 33 9 (.slice a' (x.l ++ [r]).length c') (x.l ++ [r]).length (Rall (x.l ++ [r])) ∧ Below g w w' := by
  have ho6 := h.okg.o64
  obtain ⟨o1, ho1, ho1v⟩ : ∃ o1 : Nat, IntKind.u64.wrap ((x.c : Int) + 1) = (o1 : Int) ∧ o1 = x.c + 1 := ⟨x.c + 1, by rw [IntWalk.u64_in _ (by omega)]; omega, rfl⟩
  rw [← ho1v]
  have g5 : ((r.p : Int) != (inp x.l r.f : Int)) = false := by rw [bne_eq_false_iff_eq]; omega
  have HI : Hid (∀ w', DtC w' g n x ao cap → Calls Tryd.prog 31 #[.pointer (some ⟨g, 0, none⟩), .int .u64 (r.f : Int)] w' fun E w2 => E = .returned (.int .u8 (inp x.l r.f : Int)) ∧ w' = w2) := fun w' h' => dinput_c r.f w' h'
  obtain ⟨k, hk5⟩ : ∃ k, k = inp x.l r.f := ⟨_, rfl⟩
  rw [← hk5] at HI g5
  clear hk5
  have HY := Lib.hid hy
  have HDT := Lib.hid h
  have g0 : (r.k == 3) = false := beq_eq_false_iff_ne.2 (by omega)
  have g01 : (r.k == 1) = false := beq_eq_false_iff_ne.2 (by omega)
  have g1 : ((r.f : Int) != (x.c : Int)) = false := by rw [bne_eq_false_iff_eq]; omega
  have g2 : ¬ (x.o : Int) ≤ (x.c : Int) := by omega
  have g3 : decide ((x.o : Int) ≤ (x.c : Int)) = false := decide_eq_false g2
  clear h1 h2 h3 hy ho6 hf ho1v
  have H0 := Lib.hid ((Loc.hold h.blk).more 33 (rcs r))
  have HB := Lib.hid (below_alloc w (.cells (rcs r) 33))
  have HBX := Lib.hid hb
  have HR0 : Hid (Rcr 33 (g + 1) (w.alloc (.cells (rcs r) 33)) [g, w.heap.size] ao x.l.length cap x.l) := h.rcr.fresh (below_alloc w _) (Nat.le_refl _) (by simp)
  have hgs : Hid (g + 1 ≤ w.heap.size) := h.blk.lt
  have hfew := Lib.hid hfw
  clear hk hb
  go_enter Tryd.func21, Tryd.ntmps21
  go_upto_region 1 with fail
  generalize w.alloc (.cells (rcs r) 33) = wa at *
  have HDA := Lib.hid (HDT.out.to HB.out)
  have l0 := H0.out.ldO ty_int 1 rfl 0 (v := .int .i64 r.k) rfl
  have l9 := H0.out.ldO ty_bool 0 rfl 9 (v := .bool true) (by rw [dcs9, HBX.out])
  go_upto_region 17 with fail
  have H1 : Hid (∀ k, Loc g w (wa.drewN k) [(g, 61, dcs x ao cap), (w.heap.size, 33, rcs r)]) := fun k => H0.out.to (below_drewN (Below.refl _ _) k)
  clear l0 l9
  have l1 := fun k => (H1.out k).ldO ty_u64 1 rfl 1 (v := .int .u64 (r.f : Int)) rfl
  have l11 := fun k => (H1.out k).ldO ty_u64 0 rfl 11 (v := .int .u64 (x.c : Int)) (dcs11 x ao cap)
  have l12 := fun k => (H1.out k).ldO ty_u64 0 rfl 12 (v := .int .u64 (x.o : Int)) (dcs12 x ao cap)
  go_quiet (fail)
  clear g0 g01 g1 g2 g3
  clear l1 l11 l12
  have H2 := Lib.hid (H1.out nq)
  have HR2 := Lib.hid (HR0.out.to (below_drewN (Below.refl _ _) nq))
  have HB2 := Lib.hid (below_drewN HB.out nq)
  have HD2 := Lib.hid (HDA.out.to (below_drewN (Below.refl _ _) nq))
  clear HDA
  clear H0 H1 HR0 HB
  generalize wa.drewN nq = wb at *
  go_upto_region 19 with fail
  have H3 : Hid (∀ k, Loc g w (wb.drewN k) [(g, 61, dcs x ao cap), (w.heap.size, 33, rcs r)]) := fun k => H2.out.to (below_drewN (Below.refl _ _) k)
  have l1 := fun k => (H3.out k).ldO ty_u64 1 rfl 1 (v := .int .u64 (r.f : Int)) rfl
  have l2 := fun k => (H3.out k).ldO ty_u8 0 rfl 8 (v := .int .u8 0) (by rw [dcs8, HY.out]; rfl)
  have l3 := fun k => (H3.out k).ldO ty_input 1 rfl 3 (v := .int .u8 (r.p : Int)) rfl
  have HC : Hid (∀ m, Calls Tryd.prog 31 #[.pointer (some ⟨g, 0, none⟩), .int .u64 (r.f : Int)] (wb.drewN m) fun E w' => E = .returned (.int .u8 (k : Int)) ∧ wb.drewN m = w') := fun m => HI.out _ (HD2.out.to (below_drewN (Below.refl _ _) m))
  clear HI
  go_quiet (first | (go_at_call 31; exact Calls.quiet_of_same ((HC.out _).mono fun _ _ hh => ⟨hh.1, hh.2.symm⟩)))
  clear l1 l2 l3 HC g5
  have H2x := Lib.hid (H3.out nq)
  have HR2x := Lib.hid (HR2.out.to (below_drewN (Below.refl _ _) nq))
  clear H2 H3 HR2 HB2 HD2
  generalize wb.drewN nq = wc at *
  have H2 := H2x
  have HR2 := HR2x
  clear H2x HR2x
  go_upto_region 21 with fail
  have l12 := H2.out.ldO ty_u64 0 rfl 11 (v := .int .u64 (x.c : Int)) (dcs11 x ao cap)
  obtain ⟨w5, s5, h5, q5⟩ := H2.out.stO ty_u64 0 rfl 11 (.int .u64 (o1 : Int)) (dcs_setC x ao cap o1) (L' := [(g, 61, dcs ⟨x.b, x.h, x.l, o1, x.o⟩ ao cap), (w.heap.size, 33, rcs r)]) rfl (by rw [dcs_size]; omega) rfl rfl
  have H5 := Lib.hid h5
  have HR5 := Lib.hid (HR2.out.turn (by simp) q5)
  clear h5 q5
  go_upto_region 22 with fail
  clear l12 s5 ho1 H2 HR2
  have a1 := fun W (hW : Cells W g 61 (dcs ⟨x.b, x.h, x.l, o1, x.o⟩ ao cap)) => run_ldO ty_drecs hW 10 (dcs10 ⟨x.b, x.h, x.l, o1, x.o⟩ ao cap)
  have a2 := fun W (hW : Cells W w.heap.size 33 (rcs r)) => run_ldA ty_dec hW 0 (Nat.le_of_ble_eq_true rfl)
  have e0 : (((rcs r).toList.drop 0).take 9).toArray = rcs r := by simp [rcs]
  simp only [e0] at a2
  clear e0
  have HX := Lib.hid (H5.out.drew)
  have HRX := Lib.hid (HR5.out.to (Below.refl _ w5).drew)
  have o0 := (⟨HX.out.get 0 rfl, HX.out.get 1 rfl⟩ : Cells w5.drew g 61 (dcs ⟨x.b, x.h, x.l, o1, x.o⟩ ao cap) ∧ Cells w5.drew w.heap.size 33 (rcs r))
  refine wp_region_till (S := fun W => Cells W g 61 (dcs ⟨x.b, x.h, x.l, o1, x.o⟩ ao cap) ∧ Cells W w.heap.size 33 (rcs r)) (by kernel_rfl) ?_
  refine wpTill_take (i := 0) (v := ?vds0) rfl (by kernel_rfl) (fun _ _ _ h => h) (Or.inl ⟨by rfl, ?hyds0⟩) o0 ?restds0
  case hyds0 => (intro W hW; (try dsimp only at hW); go_simp; try with_reducible rfl)
  simp only [Act.put, List.setIfInBounds_toArray, List.set_cons_zero, List.set_cons_succ, List.getElem_toArray, List.getElem_cons_succ, List.getElem_cons_zero]
  refine wpTill_take (i := 1) (v := ?vds1) rfl (by kernel_rfl) (fun _ _ _ h => h) (Or.inl ⟨by rfl, ?hyds1⟩) o0 ?restds1
  case hyds1 => (intro W hW; (try dsimp only at hW); go_simp; try with_reducible rfl)
  simp only [Act.put, List.setIfInBounds_toArray, List.set_cons_zero, List.set_cons_succ, List.getElem_toArray, List.getElem_cons_succ, List.getElem_cons_zero]
  refine wpTill_take (i := 2) (v := ?vds2) rfl (by kernel_rfl) (fun _ _ _ h => h) (Or.inl ⟨by rfl, ?hyds2⟩) o0 ?restds2
  case hyds2 => (intro W hW; (try dsimp only at hW); go_simp; try with_reducible rfl)
  simp only [Act.put, List.setIfInBounds_toArray, List.set_cons_zero, List.set_cons_succ, List.getElem_toArray, List.getElem_cons_succ, List.getElem_cons_zero]
  refine wpTill_take (i := 3) (v := ?vds3) rfl (by kernel_rfl) (fun _ _ _ h => h) (Or.inl ⟨by rfl, ?hyds3⟩) o0 ?restds3
  case hyds3 => (intro W hW; (try dsimp only at hW); go_simp; try with_reducible rfl)
  simp only [Act.put, List.setIfInBounds_toArray, List.set_cons_zero, List.set_cons_succ, List.getElem_toArray, List.getElem_cons_succ, List.getElem_cons_zero]
  refine wpTill_take (i := 4) (v := ?vds4) rfl (by kernel_rfl) (fun _ _ _ h => h) (Or.inl ⟨by rfl, ?hyds4⟩) o0 ?restds4
  case hyds4 => (intro W hW; (try dsimp only at hW); go_simp; try with_reducible rfl)
  simp only [Act.put, List.setIfInBounds_toArray, List.set_cons_zero, List.set_cons_succ, List.getElem_toArray, List.getElem_cons_succ, List.getElem_cons_zero]
  refine wpTill_take (i := 5) (v := ?vds5) rfl (by kernel_rfl) (fun _ _ _ h => h) (Or.inl ⟨by rfl, ?hyds5⟩) o0 ?restds5
  case hyds5 => (intro W hW; (try dsimp only at hW); go_simp; try with_reducible rfl)
  simp only [Act.put, List.setIfInBounds_toArray, List.set_cons_zero, List.set_cons_succ, List.getElem_toArray, List.getElem_cons_succ, List.getElem_cons_zero]
  refine wpTill_run (i := 6) (by kernel_rfl) rfl o0 (fun K hK => ?_)
  go_simp
  have o6 := (⟨(HX.out.more 33 (rcs r)).get 0 rfl, (HX.out.more 33 (rcs r)).get 1 rfl⟩ : Cells (w5.drew.alloc (.cells (rcs r) 33)) g 61 (dcs ⟨x.b, x.h, x.l, o1, x.o⟩ ao cap) ∧ Cells (w5.drew.alloc (.cells (rcs r) 33)) w.heap.size 33 (rcs r))
  refine hK _ _ ?_
  clear hK K
  refine wpTill_run (i := 7) (by kernel_rfl) rfl o6 (fun K hK => ?_)
  refine step_append_rec Tryd.underlying34 info_drec rfl _ _ rfl (by simp [Act.eval]) r (by simp [Act.eval]) HRX.out HX.out (Nat.le_succ g) (by have := HX.out.be.size; have := hgs.out; omega) (by simp) (Nat.le_of_lt hfew.out) ?_
  intro r7 cap7 w7 hR7 hL7
  have HR7 := Lib.hid hR7
  have HL7 := Lib.hid hL7
  have o7 := (⟨HL7.out.get 0 rfl, HL7.out.get 1 rfl⟩ : Cells w7 g 61 (dcs ⟨x.b, x.h, x.l, o1, x.o⟩ ao cap) ∧ Cells w7 w.heap.size 33 (rcs r))
  clear hR7 hL7
  refine hK _ _ ?_
  clear hK K
  refine wpTill_run (i := 8) (by kernel_rfl) rfl o7 (fun K hK => ?_)
  go_simp
  refine hK _ _ ?_
  clear hK K
  refine wpTill_run (i := 9) (by kernel_rfl) rfl o7 (fun K hK => ?_)
  go_simp
  refine hK _ _ ?_
  clear hK K
  refine wpTill_run (i := 10) (by kernel_rfl) rfl o7 (fun K hK => ?_)
  obtain ⟨w8, s8, H8, q8⟩ := HL7.out.stO ty_drecs 0 rfl 10 (.slice (some ⟨r7, 0, none⟩) (x.l.length + 1) cap7) (dcs_setL ⟨x.b, x.h, x.l, o1, x.o⟩ ao cap (x.l ++ [r]) (some ⟨r7, 0, none⟩) cap7 (x.l.length + 1) (by simp)) (L' := [(g, 61, dcs ⟨x.b, x.h, x.l ++ [r], o1, x.o⟩ (some ⟨r7, 0, none⟩) cap7), (w.heap.size, 33, rcs r)]) rfl (by rw [dcs_size]; omega) rfl rfl
  go_simp
  refine hK _ _ ?_
  clear hK K
  refine wpTill_done (by kernel_rfl) ?_
  clear a1 a2 o0 o6 o7 s8
  have H9 := Lib.hid H8
  have R9 := Lib.hid (HR7.out.turn (by simp) q8)
  clear H8 q8 HR7 HL7 HX HRX
  go_wp2
  go_ret
  refine ⟨rfl, some ⟨r7, 0, none⟩, cap7, H9.out.get 0 rfl, ?_, H9.out.be⟩
  have h9 := R9.out.own
  rw [show x.l.length + 1 = (x.l ++ [r]).length by simp] at h9
  exact h9
set_option maxHeartbeats 2000000 in
theorem dtk_sure_1 {g n : Nat} {x : Sg} {ao : Option Addr} {cap : Nat} {r : Rc} {w : World} (h : DtC w g n x ao cap) (hf : r.fit) (hk : r.k = 2) (hb : x.b = true) (h1 : r.f = x.c) (h2 : x.c < x.o) (hy : x.h.y = 1) (h3 : r.q = inp x.l r.f) (hfw : x.l.length < 1000000) :
    Calls Tryd.prog 21 #[.pointer (some ⟨g, 0, none⟩), .agg (rcs r), .int .u64 (n : Int)] w fun E w' => E = .returned (.int .i64 0) ∧ ∃ a' c', Cells w' g 61 (dcs ⟨x.b, x.h, x.l ++ [r], (x.c + 1), x.o⟩ a' c') ∧ w'.ownsRow (g + 1) 33 9 (.slice a' (x.l ++ [r]).length c') (x.l ++ [r]).length (Rall (x.l ++ [r])) ∧ Below g w w' := by
  have ho6 := h.okg.o64
  obtain ⟨o1, ho1, ho1v⟩ : ∃ o1 : Nat, IntKind.u64.wrap ((x.c : Int) + 1) = (o1 : Int) ∧ o1 = x.c + 1 := ⟨x.c + 1, by rw [IntWalk.u64_in _ (by omega)]; omega, rfl⟩
  rw [← ho1v]
  have g5 : ((r.q : Int) != (inp x.l r.f : Int)) = false := by rw [bne_eq_false_iff_eq]; omega
  have HI : Hid (∀ w', DtC w' g n x ao cap → Calls Tryd.prog 31 #[.pointer (some ⟨g, 0, none⟩), .int .u64 (r.f : Int)] w' fun E w2 => E = .returned (.int .u8 (inp x.l r.f : Int)) ∧ w' = w2) := fun w' h' => dinput_c r.f w' h'
  obtain ⟨k, hk5⟩ : ∃ k, k = inp x.l r.f := ⟨_, rfl⟩
  rw [← hk5] at HI g5
  clear hk5
  have HY := Lib.hid hy
  have HDT := Lib.hid h
  have g0 : (r.k == 3) = false := beq_eq_false_iff_ne.2 (by omega)
  have g01 : (r.k == 1) = false := beq_eq_false_iff_ne.2 (by omega)
  have g1 : ((r.f : Int) != (x.c : Int)) = false := by rw [bne_eq_false_iff_eq]; omega
  have g2 : ¬ (x.o : Int) ≤ (x.c : Int) := by omega
  have g3 : decide ((x.o : Int) ≤ (x.c : Int)) = false := decide_eq_false g2
  clear h1 h2 h3 hy ho6 hf ho1v
  have H0 := Lib.hid ((Loc.hold h.blk).more 33 (rcs r))
  have HB := Lib.hid (below_alloc w (.cells (rcs r) 33))
  have HBX := Lib.hid hb
  have HR0 : Hid (Rcr 33 (g + 1) (w.alloc (.cells (rcs r) 33)) [g, w.heap.size] ao x.l.length cap x.l) := h.rcr.fresh (below_alloc w _) (Nat.le_refl _) (by simp)
  have hgs : Hid (g + 1 ≤ w.heap.size) := h.blk.lt
  have hfew := Lib.hid hfw
  clear hk hb
  go_enter Tryd.func21, Tryd.ntmps21
  go_upto_region 1 with fail
  generalize w.alloc (.cells (rcs r) 33) = wa at *
  have HDA := Lib.hid (HDT.out.to HB.out)
  have l0 := H0.out.ldO ty_int 1 rfl 0 (v := .int .i64 r.k) rfl
  have l9 := H0.out.ldO ty_bool 0 rfl 9 (v := .bool true) (by rw [dcs9, HBX.out])
  go_upto_region 17 with fail
  have H1 : Hid (∀ k, Loc g w (wa.drewN k) [(g, 61, dcs x ao cap), (w.heap.size, 33, rcs r)]) := fun k => H0.out.to (below_drewN (Below.refl _ _) k)
  clear l0 l9
  have l1 := fun k => (H1.out k).ldO ty_u64 1 rfl 1 (v := .int .u64 (r.f : Int)) rfl
  have l11 := fun k => (H1.out k).ldO ty_u64 0 rfl 11 (v := .int .u64 (x.c : Int)) (dcs11 x ao cap)
  have l12 := fun k => (H1.out k).ldO ty_u64 0 rfl 12 (v := .int .u64 (x.o : Int)) (dcs12 x ao cap)
  go_quiet (fail)
  clear g0 g01 g1 g2 g3
  clear l1 l11 l12
  have H2 := Lib.hid (H1.out nq)
  have HR2 := Lib.hid (HR0.out.to (below_drewN (Below.refl _ _) nq))
  have HB2 := Lib.hid (below_drewN HB.out nq)
  have HD2 := Lib.hid (HDA.out.to (below_drewN (Below.refl _ _) nq))
  clear HDA
  clear H0 H1 HR0 HB
  generalize wa.drewN nq = wb at *
  go_upto_region 19 with fail
  have H3 : Hid (∀ k, Loc g w (wb.drewN k) [(g, 61, dcs x ao cap), (w.heap.size, 33, rcs r)]) := fun k => H2.out.to (below_drewN (Below.refl _ _) k)
  have l1 := fun k => (H3.out k).ldO ty_u64 1 rfl 1 (v := .int .u64 (r.f : Int)) rfl
  have l2 := fun k => (H3.out k).ldO ty_u8 0 rfl 8 (v := .int .u8 1) (by rw [dcs8, HY.out]; rfl)
  have l3 := fun k => (H3.out k).ldO ty_input 1 rfl 4 (v := .int .u8 (r.q : Int)) rfl
  have HC : Hid (∀ m, Calls Tryd.prog 31 #[.pointer (some ⟨g, 0, none⟩), .int .u64 (r.f : Int)] (wb.drewN m) fun E w' => E = .returned (.int .u8 (k : Int)) ∧ wb.drewN m = w') := fun m => HI.out _ (HD2.out.to (below_drewN (Below.refl _ _) m))
  clear HI
  go_quiet (first | (go_at_call 31; exact Calls.quiet_of_same ((HC.out _).mono fun _ _ hh => ⟨hh.1, hh.2.symm⟩)))
  clear l1 l2 l3 HC g5
  have H2x := Lib.hid (H3.out nq)
  have HR2x := Lib.hid (HR2.out.to (below_drewN (Below.refl _ _) nq))
  clear H2 H3 HR2 HB2 HD2
  generalize wb.drewN nq = wc at *
  have H2 := H2x
  have HR2 := HR2x
  clear H2x HR2x
  go_upto_region 21 with fail
  have l12 := H2.out.ldO ty_u64 0 rfl 11 (v := .int .u64 (x.c : Int)) (dcs11 x ao cap)
  obtain ⟨w5, s5, h5, q5⟩ := H2.out.stO ty_u64 0 rfl 11 (.int .u64 (o1 : Int)) (dcs_setC x ao cap o1) (L' := [(g, 61, dcs ⟨x.b, x.h, x.l, o1, x.o⟩ ao cap), (w.heap.size, 33, rcs r)]) rfl (by rw [dcs_size]; omega) rfl rfl
  have H5 := Lib.hid h5
  have HR5 := Lib.hid (HR2.out.turn (by simp) q5)
  clear h5 q5
  go_upto_region 22 with fail
  clear l12 s5 ho1 H2 HR2
  have a1 := fun W (hW : Cells W g 61 (dcs ⟨x.b, x.h, x.l, o1, x.o⟩ ao cap)) => run_ldO ty_drecs hW 10 (dcs10 ⟨x.b, x.h, x.l, o1, x.o⟩ ao cap)
  have a2 := fun W (hW : Cells W w.heap.size 33 (rcs r)) => run_ldA ty_dec hW 0 (Nat.le_of_ble_eq_true rfl)
  have e0 : (((rcs r).toList.drop 0).take 9).toArray = rcs r := by simp [rcs]
  simp only [e0] at a2
  clear e0
  have HX := Lib.hid (H5.out.drew)
  have HRX := Lib.hid (HR5.out.to (Below.refl _ w5).drew)
  have o0 := (⟨HX.out.get 0 rfl, HX.out.get 1 rfl⟩ : Cells w5.drew g 61 (dcs ⟨x.b, x.h, x.l, o1, x.o⟩ ao cap) ∧ Cells w5.drew w.heap.size 33 (rcs r))
  refine wp_region_till (S := fun W => Cells W g 61 (dcs ⟨x.b, x.h, x.l, o1, x.o⟩ ao cap) ∧ Cells W w.heap.size 33 (rcs r)) (by kernel_rfl) ?_
  refine wpTill_take (i := 0) (v := ?vds0) rfl (by kernel_rfl) (fun _ _ _ h => h) (Or.inl ⟨by rfl, ?hyds0⟩) o0 ?restds0
  case hyds0 => (intro W hW; (try dsimp only at hW); go_simp; try with_reducible rfl)
  simp only [Act.put, List.setIfInBounds_toArray, List.set_cons_zero, List.set_cons_succ, List.getElem_toArray, List.getElem_cons_succ, List.getElem_cons_zero]
  refine wpTill_take (i := 1) (v := ?vds1) rfl (by kernel_rfl) (fun _ _ _ h => h) (Or.inl ⟨by rfl, ?hyds1⟩) o0 ?restds1
  case hyds1 => (intro W hW; (try dsimp only at hW); go_simp; try with_reducible rfl)
  simp only [Act.put, List.setIfInBounds_toArray, List.set_cons_zero, List.set_cons_succ, List.getElem_toArray, List.getElem_cons_succ, List.getElem_cons_zero]
  refine wpTill_take (i := 2) (v := ?vds2) rfl (by kernel_rfl) (fun _ _ _ h => h) (Or.inl ⟨by rfl, ?hyds2⟩) o0 ?restds2
  case hyds2 => (intro W hW; (try dsimp only at hW); go_simp; try with_reducible rfl)
  simp only [Act.put, List.setIfInBounds_toArray, List.set_cons_zero, List.set_cons_succ, List.getElem_toArray, List.getElem_cons_succ, List.getElem_cons_zero]
  refine wpTill_take (i := 3) (v := ?vds3) rfl (by kernel_rfl) (fun _ _ _ h => h) (Or.inl ⟨by rfl, ?hyds3⟩) o0 ?restds3
  case hyds3 => (intro W hW; (try dsimp only at hW); go_simp; try with_reducible rfl)
  simp only [Act.put, List.setIfInBounds_toArray, List.set_cons_zero, List.set_cons_succ, List.getElem_toArray, List.getElem_cons_succ, List.getElem_cons_zero]
  refine wpTill_take (i := 4) (v := ?vds4) rfl (by kernel_rfl) (fun _ _ _ h => h) (Or.inl ⟨by rfl, ?hyds4⟩) o0 ?restds4
  case hyds4 => (intro W hW; (try dsimp only at hW); go_simp; try with_reducible rfl)
  simp only [Act.put, List.setIfInBounds_toArray, List.set_cons_zero, List.set_cons_succ, List.getElem_toArray, List.getElem_cons_succ, List.getElem_cons_zero]
  refine wpTill_take (i := 5) (v := ?vds5) rfl (by kernel_rfl) (fun _ _ _ h => h) (Or.inl ⟨by rfl, ?hyds5⟩) o0 ?restds5
  case hyds5 => (intro W hW; (try dsimp only at hW); go_simp; try with_reducible rfl)
  simp only [Act.put, List.setIfInBounds_toArray, List.set_cons_zero, List.set_cons_succ, List.getElem_toArray, List.getElem_cons_succ, List.getElem_cons_zero]
  refine wpTill_run (i := 6) (by kernel_rfl) rfl o0 (fun K hK => ?_)
  go_simp
  have o6 := (⟨(HX.out.more 33 (rcs r)).get 0 rfl, (HX.out.more 33 (rcs r)).get 1 rfl⟩ : Cells (w5.drew.alloc (.cells (rcs r) 33)) g 61 (dcs ⟨x.b, x.h, x.l, o1, x.o⟩ ao cap) ∧ Cells (w5.drew.alloc (.cells (rcs r) 33)) w.heap.size 33 (rcs r))
  refine hK _ _ ?_
  clear hK K
  refine wpTill_run (i := 7) (by kernel_rfl) rfl o6 (fun K hK => ?_)
  refine step_append_rec Tryd.underlying34 info_drec rfl _ _ rfl (by simp [Act.eval]) r (by simp [Act.eval]) HRX.out HX.out (Nat.le_succ g) (by have := HX.out.be.size; have := hgs.out; omega) (by simp) (Nat.le_of_lt hfew.out) ?_
  intro r7 cap7 w7 hR7 hL7
  have HR7 := Lib.hid hR7
  have HL7 := Lib.hid hL7
  have o7 := (⟨HL7.out.get 0 rfl, HL7.out.get 1 rfl⟩ : Cells w7 g 61 (dcs ⟨x.b, x.h, x.l, o1, x.o⟩ ao cap) ∧ Cells w7 w.heap.size 33 (rcs r))
  clear hR7 hL7
  refine hK _ _ ?_
  clear hK K
  refine wpTill_run (i := 8) (by kernel_rfl) rfl o7 (fun K hK => ?_)
  go_simp
  refine hK _ _ ?_
  clear hK K
  refine wpTill_run (i := 9) (by kernel_rfl) rfl o7 (fun K hK => ?_)
  go_simp
  refine hK _ _ ?_
  clear hK K
  refine wpTill_run (i := 10) (by kernel_rfl) rfl o7 (fun K hK => ?_)
  obtain ⟨w8, s8, H8, q8⟩ := HL7.out.stO ty_drecs 0 rfl 10 (.slice (some ⟨r7, 0, none⟩) (x.l.length + 1) cap7) (dcs_setL ⟨x.b, x.h, x.l, o1, x.o⟩ ao cap (x.l ++ [r]) (some ⟨r7, 0, none⟩) cap7 (x.l.length + 1) (by simp)) (L' := [(g, 61, dcs ⟨x.b, x.h, x.l ++ [r], o1, x.o⟩ (some ⟨r7, 0, none⟩) cap7), (w.heap.size, 33, rcs r)]) rfl (by rw [dcs_size]; omega) rfl rfl
  go_simp
  refine hK _ _ ?_
  clear hK K
  refine wpTill_done (by kernel_rfl) ?_
  clear a1 a2 o0 o6 o7 s8
  have H9 := Lib.hid H8
  have R9 := Lib.hid (HR7.out.turn (by simp) q8)
  clear H8 q8 HR7 HL7 HX HRX
  go_wp2
  go_ret
  refine ⟨rfl, some ⟨r7, 0, none⟩, cap7, H9.out.get 0 rfl, ?_, H9.out.be⟩
  have h9 := R9.out.own
  rw [show x.l.length + 1 = (x.l ++ [r]).length by simp] at h9
  exact h9
end Go.Proofs.YthnelnfefllhpaaDoor
