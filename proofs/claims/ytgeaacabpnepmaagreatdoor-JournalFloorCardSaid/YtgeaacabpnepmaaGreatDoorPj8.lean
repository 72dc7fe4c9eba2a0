/- Texts of the walk. -/
import Derived.Test.YtgeaacabpnepmaaGreatDoorMe8
import Derived.Test.YtgeaacabpnepmaaGreatDoorPz8
/- A manifest read from a reader, by the program: its contract. -/
namespace Go.Proofs.YtgeaacabpnepmaaGreatDoor
open Go.RowKit
set_option linter.unusedVariables false
set_option linter.unusedSimpArgs false
set_option maxRecDepth 20000
attribute [local go_sem ↓] ld_man ld_parts ld_nums ld_u64 ld_u8 st_man st_parts st_nums st_u64 st_u8

def ReadPost (w : World) (gr : Nat) (l : List UInt8) (R : Ending) (w' : World) : Prop :=
  ∃ so sc co cc, R = .returned (.agg (mcs (rdM l).val so sc co cc)) ∧ PsAt w' so (rdM l).val.sg ∧ NsAt w' co (rdM l).val.ck ∧ Rd w' gr (rdM l).rest (rdM l).err ∧ w.grownBy w' (some gr) ∧ (∀ a, so = some a → w.heap.size ≤ a.block) ∧ (∀ a, co = some a → w.heap.size ≤ a.block) ∧ (co = none → cc = 0)
theorem rdS_snoc (k : Nat) (l : List UInt8) : rdS (k + 1) l = ⟨fin (fin (rdS k l).err (num 8 (rdS k l).rest).err) (num 8 (num 8 (rdS k l).rest).rest).err, (rdS k l).val ++ [((num 8 (rdS k l).rest).val, (num 8 (num 8 (rdS k l).rest).rest).val)], (num 8 (num 8 (rdS k l).rest).rest).rest⟩ := by
  unfold rdS
  rw [many_snoc]
  simp only [rd2, fin_fin]
theorem rdC_snoc (k : Nat) (l : List UInt8) : rdC (k + 1) l = ⟨fin (rdC k l).err (num 8 (rdC k l).rest).err, (rdC k l).val ++ [(num 8 (rdC k l).rest).val], (num 8 (rdC k l).rest).rest⟩ := by
  unfold rdC
  rw [many_snoc]
theorem rdS_len (k : Nat) (l : List UInt8) : (rdS k l).val.length = k := many_len _ _ _ _
theorem rdC_len (k : Nat) (l : List UInt8) : (rdC k l).val.length = k := many_len _ _ _ _
set_option maxHeartbeats 4000000 in
theorem mread_c (gr : Nat) (l : List UInt8) (w : World) (h : Rd w gr l 0) :
    Calls Tryz.prog 243 #[.pointer (some ⟨gr, 0, none⟩)] w (ReadPost w gr l) := by
  have H0 := Loc.two w 60 60 (mcs mz none 0 none 0) (mcs mz none 0 none 0)
  have hR0 : RS w gr mz none 0 none 0 l 0 ((w.alloc (.cells (mcs mz none 0 none 0) 60)).alloc (.cells (mcs mz none 0 none 0) 60)) :=
    ⟨H0.re, Grw.none _ _ _ _ _ (fun b hb => by
      have h1 := H0.low (e := (w.heap.size + 1, 60, mcs mz none 0 none 0)) (by simp)
      simp only [List.mem_cons, List.not_mem_nil, or_false] at hb
      rcases hb with rfl | rfl <;> dsimp only at h1 <;> omega), Grw.none _ _ _ _ _ (fun b hb => by
      have h1 := H0.low (e := (w.heap.size + 1, 60, mcs mz none 0 none 0)) (by simp)
      simp only [List.mem_cons, List.not_mem_nil, or_false] at hb
      rcases hb with rfl | rfl <;> dsimp only at h1 <;> omega), rd_on h (grown_of_below H0.be), grown_of_below H0.be, h.1.lt⟩
  obtain ⟨Q, hQ⟩ : ∃ Q, Q = ReadPost w gr l := ⟨_, rfl⟩
  rw [← hQ]
  have HQ := Lib.hid hQ
  have R0 := Lib.hid hR0
  have hz : (#[.int .u64 0, .int .u8 0, .slice none 0 0, .slice none 0 0] : Array Value) = mcs mz none 0 none 0 := rfl
  have HZ := Lib.hid hz
  clear hQ hR0 h H0 hz
  go_enter Tryz.func243, Tryz.ntmps243
  go_upto_region 2 with fail
  rw [HZ.out]
  generalize (w.alloc (.cells (mcs mz none 0 none 0) 60)).alloc (.cells (mcs mz none 0 none 0) 60) = wa at *
  clear HZ
  go_wp2_with fail
  refine (rdU64 gr l 0 _ R0.out.rd).mono ?_
  rintro E w1 ⟨rfl, hr1⟩
  obtain ⟨a, ha⟩ : ∃ a, a = num 8 l := ⟨_, rfl⟩
  rw [← ha] at hr1 ⊢
  have HA := Lib.hid ha
  obtain ⟨w2, s2, r2⟩ := (R0.out.call hr1).ep a.val
  have R2 := Lib.hid r2
  clear hr1 R0 r2 ha
  go_wp2_with fail
  clear s2
  refine (rdU8 gr a.rest _ _ R2.out.rd).mono ?_
  rintro E w3 ⟨rfl, hr3⟩
  obtain ⟨b, hb⟩ : ∃ b, b = num 1 a.rest := ⟨_, rfl⟩
  rw [← hb] at hr3 ⊢
  have HB := Lib.hid hb
  obtain ⟨w4, s4, r4⟩ := (R2.out.call hr3).pl b.val
  have R4 := Lib.hid r4
  clear hr3 R2 r4 hb
  go_wp2_with fail
  clear s4
  refine (rdU8 gr b.rest _ _ R4.out.rd).mono ?_
  rintro E w5 ⟨rfl, hr5⟩
  have hc256 := n1_lt b.rest
  obtain ⟨c, hc⟩ : ∃ c, c = num 1 b.rest := ⟨_, rfl⟩
  rw [← hc] at hr5 hc256 ⊢
  have HC := Lib.hid hc
  have R5 := Lib.hid (R4.out.call hr5)
  obtain ⟨e0, he0⟩ : ∃ e0, e0 = fin (fin (fin 0 a.err) b.err) c.err := ⟨_, rfl⟩
  rw [← he0] at R5
  have HE0 := Lib.hid he0
  clear hr5 R4 hc he0
  go_wp2
  go_loopw [13] (fun i wr => ∃ (k : Nat) (so : Option Addr) (sc : Nat), k ≤ c.val ∧ i = .int .u8 (k : Int) ∧ Hid (RS w gr ⟨a.val, b.val, (rdS k c.rest).val, []⟩ so sc none 0 (rdS k c.rest).rest (fin e0 (rdS k c.rest).err) wr)) (fun i _ => c.val - (intOf i).toNat)
  case atStart => exact ⟨0, none, 0, Nat.zero_le _, rfl, by show RS _ _ _ _ _ _ _ _ _ _; simpa [rdS, many, fin_zero, mz] using R5.out⟩
  case round =>
    obtain ⟨k, so, sc, hk, rfl, HR⟩ := hrel
    clear R5
    by_cases hlt : k < c.val
    · have HSN := Lib.hid (rdS_snoc k c.rest)
      have hlen := rdS_len k c.rest
      obtain ⟨X, hX⟩ : ∃ X, X = rdS k c.rest := ⟨_, rfl⟩
      rw [← hX] at HSN HR hlen
      have HLEN := Lib.hid hlen
      clear hX hlen
      go_wp2_with fail
      refine (rdU64 gr _ _ _ HR.out.rd).mono ?_
      rintro E w6 ⟨rfl, hr6⟩
      have R6 := Lib.hid (HR.out.call hr6)
      clear hr6 HR
      obtain ⟨p1, hp1⟩ : ∃ p1, p1 = num 8 X.rest := ⟨_, rfl⟩
      rw [← hp1] at R6 HSN ⊢
      clear hp1
      go_upto_region 7 with fail
      have R7 := Lib.hid R6.out.drew
      have a1 := fun W (hW : Cells W (w.heap.size + 1) 60 (mcs ⟨a.val, b.val, X.val, []⟩ so sc none 0)) => run_ldO ty_parts hW 2 (v := .slice so X.val.length sc) rfl
      have o0 : Cells w6.drew (w.heap.size + 1) 60 (mcs ⟨a.val, b.val, X.val, []⟩ so sc none 0) := R7.out.L.get 1 rfl
      clear R6
      refine wp_region_till (S := fun W => Cells W (w.heap.size + 1) 60 (mcs ⟨a.val, b.val, X.val, []⟩ so sc none 0)) (by kernel_rfl) ?_
      refine wpTill_take (i := 0) (v := ?v0) rfl (by kernel_rfl) (fun _ _ _ h => h) (Or.inl ⟨by rfl, ?hy0⟩) o0 ?rest0
      case hy0 => (intro W hW; (try dsimp only at hW); go_simp; try with_reducible rfl)
      simp only [Act.put, List.setIfInBounds_toArray, List.set_cons_zero, List.set_cons_succ, List.getElem_toArray, List.getElem_cons_succ, List.getElem_cons_zero]
      refine wpTill_take (i := 1) (v := ?v1) rfl (by kernel_rfl) (fun _ _ _ h => h) (Or.inl ⟨by rfl, ?hy1⟩) o0 ?rest1
      case hy1 => (intro W hW; (try dsimp only at hW); go_simp; try with_reducible rfl)
      simp only [Act.put, List.setIfInBounds_toArray, List.set_cons_zero, List.set_cons_succ, List.getElem_toArray, List.getElem_cons_succ, List.getElem_cons_zero]
      refine wpTill_take (i := 2) (v := ?v2) rfl (by kernel_rfl) (fun _ _ _ h => h) (Or.inl ⟨by rfl, ?hy2⟩) o0 ?rest2
      case hy2 => (intro W hW; (try dsimp only at hW); go_simp; try with_reducible rfl)
      simp only [Act.put, List.setIfInBounds_toArray, List.set_cons_zero, List.set_cons_succ, List.getElem_toArray, List.getElem_cons_succ, List.getElem_cons_zero]
      refine wpTill_take (i := 3) (v := ?v3) rfl (by kernel_rfl) (fun _ _ _ h => h) (Or.inl ⟨by rfl, ?hy3⟩) o0 ?rest3
      case hy3 => (intro W hW; (try dsimp only at hW); go_simp; try with_reducible rfl)
      simp only [Act.put, List.setIfInBounds_toArray, List.set_cons_zero, List.set_cons_succ, List.getElem_toArray, List.getElem_cons_succ, List.getElem_cons_zero]
      refine wpTill_run (i := 4) (by kernel_rfl) rfl o0 (fun K hK => ?_)
      go_simp
      go_at_call 279
      refine (rdU64 gr _ _ _ R7.out.rd).mono ?_
      rintro E w8 ⟨rfl, hr8⟩
      have R8 := Lib.hid (R7.out.call hr8)
      clear hr8 R7 o0
      obtain ⟨p2, hp2⟩ : ∃ p2, p2 = num 8 p1.rest := ⟨_, rfl⟩
      rw [← hp2] at R8 HSN ⊢
      clear hp2
      have o8 : Cells w8 (w.heap.size + 1) 60 (mcs ⟨a.val, b.val, X.val, []⟩ so sc none 0) := R8.out.L.get 1 rfl
      refine hK _ _ ?_
      clear hK K
      refine wpTill_run (i := 5) (by kernel_rfl) rfl o8 (fun K hK => ?_)
      go_simp
      refine hK _ _ ?_
      clear hK K
      refine wpTill_run (i := 6) (by kernel_rfl) rfl o8 (fun K hK => ?_)
      go_simp
      have R9 := Lib.hid (R8.out.alloc (.cells (gpv (p1.val, p2.val)).toArray 122))
      have o9 : Cells (w8.alloc (.cells (gpv (p1.val, p2.val)).toArray 122)) (w.heap.size + 1) 60 (mcs ⟨a.val, b.val, X.val, []⟩ so sc none 0) := R9.out.L.get 1 rfl
      refine hK _ _ ?_
      clear hK K
      refine wpTill_run (i := 7) (by kernel_rfl) rfl o9 (fun K hK => ?_)
      refine step_append_part Tryz.underlying58 info_part rfl _ _ rfl (by simp [Act.eval]) (p1.val, p2.val) (by simp [Act.eval]) R8.out.ps R8.out.L (Nat.le_refl _) R8.out.L.size (by simp) (by have := HLEN.out; simp; omega) ?_
      intro r' cap' w10 hr10 hl10 hg10
      obtain ⟨w11, s11, r11⟩ := R8.out.part (p1.val, p2.val) hr10 hl10 hg10
      have R11 := Lib.hid r11
      have o10 : Cells w10 (w.heap.size + 1) 60 (mcs ⟨a.val, b.val, X.val, []⟩ so sc none 0) := hl10.get 1 rfl
      clear hr10 hl10 hg10 r11 R9 R8
      refine hK _ _ ?_
      clear hK K
      refine wpTill_run (i := 8) (by kernel_rfl) rfl o10 (fun K hK => ?_)
      go_simp
      refine hK _ _ ?_
      clear hK K
      refine wpTill_run (i := 9) (by kernel_rfl) rfl o10 (fun K hK => ?_)
      go_simp
      refine hK _ _ ?_
      clear hK K
      refine wpTill_done (by kernel_rfl) ?_
      clear a1 o8 o9 o10 s11
      go_wp2
      go_roundw
      case rel => exact ⟨k + 1, _, _, by omega, by go_num, by show RS _ _ _ _ _ _ _ _ _ _; rw [HSN.out]; simpa [fin_fin] using R11.out⟩
      case measure => simp [intOf]; omega
    · obtain rfl : k = c.val := by omega
      have hlen := rdS_len c.val c.rest
      obtain ⟨X, hX⟩ : ∃ X, X = rdS c.val c.rest := ⟨_, rfl⟩
      rw [← hX] at HR hlen
      have HX := Lib.hid hX
      clear hX hlen hlt hk
      go_wp2_with fail
      refine (rdU8 gr _ _ _ HR.out.rd).mono ?_
      rintro E w6 ⟨rfl, hr6⟩
      have hd256 := n1_lt X.rest
      obtain ⟨d, hd⟩ : ∃ d, d = num 1 X.rest := ⟨_, rfl⟩
      rw [← hd] at hr6 hd256 ⊢
      have HD := Lib.hid hd
      have R6 := Lib.hid (HR.out.call hr6)
      obtain ⟨e1, he1⟩ : ∃ e1, e1 = fin (fin e0 X.err) d.err := ⟨_, rfl⟩
      rw [← he1] at R6
      have HE1 := Lib.hid he1
      clear hr6 HR hd he1
      go_wp2
      go_loopw [29] (fun i wr => ∃ (k : Nat) (co : Option Addr) (cc : Nat), k ≤ d.val ∧ i = .int .u8 (k : Int) ∧ Hid (RS w gr ⟨a.val, b.val, X.val, (rdC k d.rest).val⟩ so sc co cc (rdC k d.rest).rest (fin e1 (rdC k d.rest).err) wr)) (fun i _ => d.val - (intOf i).toNat)
      case atStart => exact ⟨0, none, 0, Nat.zero_le _, rfl, by show RS _ _ _ _ _ _ _ _ _ _; simpa [rdC, many, fin_zero] using R6.out⟩
      case round =>
        obtain ⟨k, co, cc, hk, rfl, HR⟩ := hrel
        clear R6
        by_cases hlt : k < d.val
        · have HSN := Lib.hid (rdC_snoc k d.rest)
          have hlen := rdC_len k d.rest
          obtain ⟨Y, hY⟩ : ∃ Y, Y = rdC k d.rest := ⟨_, rfl⟩
          rw [← hY] at HSN HR hlen
          have HLEN := Lib.hid hlen
          clear hY hlen
          go_upto_region 11 with fail
          have R7 := Lib.hid HR.out.drew
          clear HR
          have a1 := fun W (hW : Cells W (w.heap.size + 1) 60 (mcs ⟨a.val, b.val, X.val, Y.val⟩ so sc co cc)) => run_ldO ty_nums hW 3 (v := .slice co Y.val.length cc) rfl
          have o0 := R7.out.L.get 1 rfl
          refine wp_region_till (S := fun W => Cells W (w.heap.size + 1) 60 (mcs ⟨a.val, b.val, X.val, Y.val⟩ so sc co cc)) (by kernel_rfl) ?_
          refine wpTill_take (i := 0) (v := ?vb0) rfl (by kernel_rfl) (fun _ _ _ h => h) (Or.inl ⟨by rfl, ?hyb0⟩) o0 ?restb0
          case hyb0 => (intro W hW; (try dsimp only at hW); go_simp; try with_reducible rfl)
          simp only [Act.put, List.setIfInBounds_toArray, List.set_cons_zero, List.set_cons_succ, List.getElem_toArray, List.getElem_cons_succ, List.getElem_cons_zero]
          refine wpTill_take (i := 1) (v := ?vb1) rfl (by kernel_rfl) (fun _ _ _ h => h) (Or.inl ⟨by rfl, ?hyb1⟩) o0 ?restb1
          case hyb1 => (intro W hW; (try dsimp only at hW); go_simp; try with_reducible rfl)
          simp only [Act.put, List.setIfInBounds_toArray, List.set_cons_zero, List.set_cons_succ, List.getElem_toArray, List.getElem_cons_succ, List.getElem_cons_zero]
          refine wpTill_take (i := 2) (v := ?vb2) rfl (by kernel_rfl) (fun _ _ _ h => h) (Or.inl ⟨by rfl, ?hyb2⟩) o0 ?restb2
          case hyb2 => (intro W hW; (try dsimp only at hW); go_simp; try with_reducible rfl)
          simp only [Act.put, List.setIfInBounds_toArray, List.set_cons_zero, List.set_cons_succ, List.getElem_toArray, List.getElem_cons_succ, List.getElem_cons_zero]
          refine wpTill_run (i := 3) (by kernel_rfl) rfl o0 (fun K hK => ?_)
          go_simp
          go_at_call 279
          refine (rdU64 gr _ _ _ R7.out.rd).mono ?_
          rintro E w8 ⟨rfl, hr8⟩
          have R8 := Lib.hid (R7.out.call hr8)
          clear hr8 R7 o0
          obtain ⟨p2, hp2⟩ : ∃ p2, p2 = num 8 Y.rest := ⟨_, rfl⟩
          rw [← hp2] at R8 HSN ⊢
          clear hp2
          have o8 := R8.out.L.get 1 rfl
          refine hK _ _ ?_
          clear hK K
          refine wpTill_run (i := 4) (by kernel_rfl) rfl o8 (fun K hK => ?_)
          go_simp
          have R9 := Lib.hid (R8.out.alloc (.cells (gnv p2.val).toArray 37))
          have o9 := R9.out.L.get 1 rfl
          refine hK _ _ ?_
          clear hK K
          refine wpTill_run (i := 5) (by kernel_rfl) rfl o9 (fun K hK => ?_)
          refine step_append_num Tryz.underlying41 info_num rfl _ _ rfl (by simp [Act.eval]) p2.val (by simp [Act.eval]) R8.out.ns R8.out.L (Nat.le_refl _) R8.out.L.size (by simp) (by have := HLEN.out; simp; omega) ?_
          intro r' cap' w10 hr10 hl10 hg10
          obtain ⟨w11, s11, r11⟩ := R8.out.num p2.val hr10 hl10 hg10
          have R11 := Lib.hid r11
          have o10 := hl10.get 1 rfl
          clear hr10 hl10 hg10 r11 R9 R8
          refine hK _ _ ?_
          clear hK K
          refine wpTill_run (i := 6) (by kernel_rfl) rfl o10 (fun K hK => ?_)
          go_simp
          refine hK _ _ ?_
          clear hK K
          refine wpTill_run (i := 7) (by kernel_rfl) rfl o10 (fun K hK => ?_)
          go_simp
          refine hK _ _ ?_
          clear hK K
          refine wpTill_done (by kernel_rfl) ?_
          clear a1 o8 o9 o10 s11
          go_wp2
          go_roundw
          case rel => exact ⟨k + 1, _, _, by omega, by go_num, by show RS _ _ _ _ _ _ _ _ _ _; rw [HSN.out]; simpa [fin_fin] using R11.out⟩
          case measure => simp [intOf]; omega
        · obtain rfl : k = d.val := by omega
          have hval : rdM l = ⟨fin (fin (fin (fin (fin a.err b.err) c.err) X.err) d.err) (rdC d.val d.rest).err, ⟨a.val, b.val, X.val, (rdC d.val d.rest).val⟩, (rdC d.val d.rest).rest⟩ := by
            unfold rdM
            dsimp only
            rw [← HA.out, ← HB.out, ← HC.out, ← HX.out, ← HD.out]
          obtain ⟨Y, hY⟩ : ∃ Y, Y = rdC d.val d.rest := ⟨_, rfl⟩
          rw [← hY] at HR hval
          have HV := Lib.hid hval
          have l1 := HR.out.L.ldA ty_man 1 rfl 0 (vs := mcs ⟨a.val, b.val, X.val, Y.val⟩ so sc co cc) rfl (Nat.le_of_ble_eq_true rfl)
          obtain ⟨w12, s12, H12, q12⟩ := HR.out.L.stA ty_man 0 rfl 0 (mcs ⟨a.val, b.val, X.val, Y.val⟩ so sc co cc) (cs' := mcs ⟨a.val, b.val, X.val, Y.val⟩ so sc co cc) rfl (L' := [(w.heap.size, 60, mcs ⟨a.val, b.val, X.val, Y.val⟩ so sc co cc), (w.heap.size + 1, 60, mcs ⟨a.val, b.val, X.val, Y.val⟩ so sc co cc)]) rfl (Nat.le_of_ble_eq_true rfl) rfl rfl
          have hps0 := told_part (HR.out.ps.turn (by simp) q12) rfl
          have hns0 := told_num (HR.out.ns.turn (by simp) q12) rfl
          have hps := hps0.1
          have hns := hns0.1
          have NW := Lib.hid (show (∀ a, so = some a → w.heap.size ≤ a.block) ∧ (∀ a, co = some a → w.heap.size ≤ a.block) ∧ (co = none → cc = 0) from ⟨fun a e => (hps0.2.1 a e).1, fun a e => (hns0.2.1 a e).1, hns0.2.2.2.2⟩)
          clear hps0 hns0
          have hrd := rd_past HR.out.rd q12 (by have := HR.out.lt; omega)
          have hgg := g_then HR.out.g H12.be
          have P12 := Lib.hid (And.intro hps (And.intro hns (And.intro hrd hgg)))
          clear hY hval hlt hps hns hrd hgg hk q12
          go_wp2
          refine bodyPost_ret (ret_struct Tryz.underlying60 ty_man _ 2 _ Tryz.results243 (H12.get 0 rfl) rfl rfl) rfl ?_
          rw [HQ.out]
          unfold ReadPost
          rw [HV.out]
          refine ⟨so, sc, co, cc, rfl, P12.out.1, P12.out.2.1, ?_, P12.out.2.2.2, NW.out⟩
          have h9 := P12.out.2.2.1
          rw [HE1.out, HE0.out] at h9
          simpa [fin_of] using h9
end Go.Proofs.YtgeaacabpnepmaaGreatDoor
/- Take, by the program: its contract. Conditions: a text of 2^40 bytes at most. -/
namespace Go.Proofs.YtgeaacabpnepmaaGreatDoor
open Go.RowKit
set_option linter.unusedVariables false
set_option linter.unusedSimpArgs false
set_option maxRecDepth 20000
attribute [local go_sem ↓] ld_man st_man

theorem shut_man {W : World} {g : Nat} {cs : Array Value} {T : TypeId} (tmps : Array Value) (e : Int) (fn : Func) (hr : fn.results = #[.cell 2 T, .tmp 3]) (ty : TyA T 4) (h : Cells W g T cs) (hs : cs.size = 4) (h2 : tmps.getD 2 undef = .pointer (some ⟨g, 0, none⟩)) (h3 : tmps.getD 3 undef = .int .i64 e) :
    (results fn tmps).run Tryz.prog W = .ok (.tuple #[.agg cs, .int .i64 e]) W := by
  have hl := run_ldA ty h 0 (by omega)
  have he : ((cs.toList.drop 0).take 4).toArray = cs := by simp [List.take_of_length_le, hs]
  rw [he] at hl
  have h2' : tmps[2]?.getD undef = .pointer (some ⟨g, 0, none⟩) := by simpa using h2
  have h3' : tmps[3]?.getD undef = .int .i64 e := by simpa using h3
  have hl' : (loadVar T ⟨g, 0, none⟩).run Tryz.prog W = .ok (.agg cs) W := by simpa [ldT, Instr.loadAt, Instr.sureAddr] using hl
  simp [results, hr, h2', h3', asAddr, hl']
theorem ps_turn {w w' : World} {so : Option Addr} {l : List (Nat × Nat)} {g B : Nat} (h : PsAt w so l) (q : w.grownBy w' (some g)) (hB : ∀ a, so = some a → B ≤ a.block) (hg : g < B) : PsAt w' so l := fun k hk => by
  obtain ⟨b, o, e, hc⟩ := h k hk
  refine ⟨b, o, e, fun i v hv => ?_⟩
  have h1 := hc i v hv
  rw [World.cell?_of_block (w := w) (q.block b (World.block_lt_of_cell? w _ h1) (fun q => by have := hB _ e; have := Option.some.inj q; dsimp only at *; omega))]
  exact h1
theorem ns_turn {w w' : World} {so : Option Addr} {l : List Nat} {g B : Nat} (h : NsAt w so l) (q : w.grownBy w' (some g)) (hB : ∀ a, so = some a → B ≤ a.block) (hg : g < B) : NsAt w' so l := fun k hk => by
  obtain ⟨b, o, e, hc⟩ := h k hk
  refine ⟨b, o, e, fun i v hv => ?_⟩
  have h1 := hc i v hv
  rw [World.cell?_of_block (w := w) (q.block b (World.block_lt_of_cell? w _ h1) (fun q => by have := hB _ e; have := Option.some.inj q; dsimp only at *; omega))]
  exact h1
def ManPost (w : World) (m : Mf) (e : Int) (R : Ending) (w' : World) : Prop :=
  ∃ so sc co cc, R = .returned (.tuple #[.agg (mcs m so sc co cc), .int .i64 e]) ∧ MfAt w' m so co ∧ Below w.heap.size w w' ∧ (∀ a, so = some a → w.heap.size ≤ a.block) ∧ (∀ a, co = some a → w.heap.size ≤ a.block) ∧ (co = none → cc = 0)
theorem man_none {w w' : World} (h : Below w.heap.size w w') (e : Int) : ManPost w mz e (.returned (.tuple #[.agg (mcs mz none 0 none 0), .int .i64 e])) w' :=
  ⟨none, 0, none, 0, rfl, mz_at _, h, (fun a e => by cases e), (fun a e => by cases e), fun _ => rfl⟩
set_option maxHeartbeats 4000000 in
theorem mtake_c (s : List UInt8) (w : World) (hs : s.length ≤ 1099511627776) (ht : Tab w) :
    Calls Tryz.prog 210 #[.string (str s)] w (ManPost w (tkM s) (tkE s)) := by
  have H0 := Loc.one w 60 (mcs mz none 0 none 0)
  have hsz := str_size s
  have HT := Lib.hid ht
  have HS := Lib.hid hs
  have HPL := Lib.hid (fp_len s)
  have HFS := Lib.hid (fe_set s)
  obtain ⟨m, hm⟩ : ∃ m, m = tkM s := ⟨_, rfl⟩
  obtain ⟨e, he⟩ : ∃ e, e = tkE s := ⟨_, rfl⟩
  rw [← hm, ← he]
  have HM := Lib.hid hm
  have HE := Lib.hid he
  obtain ⟨Q, hQ⟩ : ∃ Q, Q = ManPost w m e := ⟨_, rfl⟩
  rw [← hQ]
  have HQ := Lib.hid hQ
  clear hQ hm he ht
  go_enter Tryz.func210, Tryz.ntmps210
  go_upto_region 1 with fail
  rw [show (#[.int .u64 0, .int .u8 0, .slice none 0 0, .slice none 0 0] : Array Value) = mcs mz none 0 none 0 from rfl]
  generalize w.alloc (.cells (mcs mz none 0 none 0) 60) = wa at *
  go_wp2_with fail
  refine (next_c s _ HS.out (tab_below HT.out H0.be)).mono ?_
  rintro E w1 ⟨rfl, hb1⟩
  have H1 := H0.to hb1
  by_cases hf : fe s = 0
  · have hfu : fu s = 6 + (fp s).length := if_pos hf
    have HFU := Lib.hid hfu
    have HY := Lib.hid (tkYes_iff hf)
    have hE : e = if tkYes s then 0 else 4 := by rw [HE.out]; exact if_pos hf
    have hM : m = if tkYes s then (rdM (fp s)).val else mz := by rw [HM.out]; exact if_pos hf
    have HEE := Lib.hid hE
    have HMM := Lib.hid hM
    have hq : (fe s != 0) = false := by rw [hf]; rfl
    clear hfu hE hM HE HM
    obtain ⟨p, hp⟩ : ∃ p, p = fp s := ⟨_, rfl⟩
    rw [← hp] at HFU HY HMM HPL ⊢
    obtain ⟨u, hu⟩ : ∃ u, u = fu s := ⟨_, rfl⟩
    rw [← hu] at HFU ⊢
    generalize fe s = f0 at *
    clear hp hu hf
    go_wp2_with fail
    refine (rdNew p _ (by have := HPL.out; omega)).mono ?_
    rintro E w2 ⟨rfl, hr2, hg2, -⟩
    obtain ⟨gr, hgr⟩ : ∃ gr, gr = w1.heap.size := ⟨_, rfl⟩
    rw [← hgr] at hr2 ⊢
    have h1l := H1.low (e := (w.heap.size, 60, mcs mz none 0 none 0)) (by simp)
    have HGR := Lib.hid (show w.heap.size < gr by rw [hgr]; exact h1l)
    have H2 := H1.grown hg2
    clear hg2 hgr h1l
    go_wp2_with fail
    refine (mread_c gr p w2 hr2).mono ?_
    rintro E w3 ⟨so, sc, co, cc, rfl, hps, hns, hr3, hg3, hn1, hn2, hn3⟩
    have hVF := rdM_fit p
    have hLN := rdM_lens p
    obtain ⟨⟨X0, V, X2⟩, hX⟩ : ∃ X, X = rdM p := ⟨_, rfl⟩
    rw [← hX] at hps hns hr3 HY HMM hVF hLN ⊢
    clear hX
    dsimp only at hps hns hr3 HY HMM hVF hLN ⊢
    have H3 := H2.row hg3 (by have := HGR.out; omega) (fun e he => by
      simp only [List.mem_cons, List.not_mem_nil, or_false] at he
      subst he
      have := HGR.out
      dsimp only
      omega)
    have AT3 := Lib.hid (show MfAt w3 V so co from ⟨hVF, hps, hns, by simp only [maxLen]; omega, by simp only [maxLen]; omega⟩)
    have N3 := Lib.hid (show (∀ a, so = some a → w.heap.size ≤ a.block) ∧ (∀ a, co = some a → w.heap.size ≤ a.block) ∧ (co = none → cc = 0) from ⟨fun a e => Nat.le_trans H2.size (hn1 a e), fun a e => Nat.le_trans H2.size (hn2 a e), hn3⟩)
    have N4 := Lib.hid (show (∀ a, so = some a → w.heap.size + 1 ≤ a.block) ∧ (∀ a, co = some a → w.heap.size + 1 ≤ a.block) from ⟨fun a e => Nat.le_trans (H2.low (e := (w.heap.size, 60, mcs mz none 0 none 0)) (by simp)) (hn1 a e), fun a e => Nat.le_trans (H2.low (e := (w.heap.size, 60, mcs mz none 0 none 0)) (by simp)) (hn2 a e)⟩)
    have R3 := Lib.hid hr3
    clear hVF hLN hps hns hr3 hg3 hr2 hn1 hn2 hn3 H1 H2 H0 hb1
    obtain ⟨g8, w4, z4, s4, H4, q4⟩ := H3.newA ty_man #[.int .u64 0, .int .u8 0, .slice none 0 0, .slice none 0 0] (mcs V so sc co cc) rfl rfl rfl
    replace H4 : Loc _ _ _ [(w.heap.size, 60, mcs mz none 0 none 0), (g8, 60, mcs V so sc co cc)] := H4
    have AT4 := Lib.hid (AT3.out.to (below_of_grown q4))
    have R4 := Lib.hid (rd_on R3.out q4)
    have l4 := H4.ldA ty_man 1 rfl 0 (vs := mcs V so sc co cc) rfl (Nat.le_of_ble_eq_true rfl)
    clear AT3 R3 q4 H3
    obtain ⟨w5, s5, H5, _⟩ := H4.stA ty_man 0 rfl 0 #[.int .u64 0, .int .u8 0, .slice none 0 0, .slice none 0 0] (cs' := mcs mz none 0 none 0) rfl (L' := [(w.heap.size, 60, mcs mz none 0 none 0), (g8, 60, mcs V so sc co cc)]) rfl (Nat.le_of_ble_eq_true rfl) rfl rfl
    have NO : Hid (tkYes s = false → ∀ W, Below w.heap.size w W → Q (.returned (.tuple #[.agg (mcs mz none 0 none 0), .int .i64 4])) W) := fun hn W hW => by
      have e1 := HEE.out; have e2 := HMM.out
      rw [if_neg (by rw [hn]; decide)] at e1 e2
      rw [HQ.out, e1, e2]
      exact man_none hW 4
    by_cases c1 : u = s.length
    · have hq1 : ((u : Int) != (s.length : Int)) = false := by rw [bne_eq_false_iff_eq, c1]
      go_wp2_with fail
      clear s4
      refine (rdErr gr _ _ w4 R4.out).mono ?_
      rintro E w' ⟨rfl, rfl⟩
      by_cases c2 : X0 = 0
      · have hq2 : (X0 != 0) = false := by rw [c2]; rfl
        go_wp2_with fail
        refine (rdRest gr _ _ w4 R4.out).mono ?_
        rintro E w' ⟨rfl, rfl⟩
        cases hX2 : X2 with
        | nil =>
          have hq3 : ((str ([] : List UInt8)).toList == []) = true := by rw [ByteArray.toList_eq, str_data]; rfl
          have hemp : (str ([] : List UInt8)).toList.isEmpty = true := by rw [ByteArray.toList_eq, str_data]; rfl
          have hemp2 : (str ([] : List UInt8)).toList = [] := by rw [ByteArray.toList_eq, str_data]
          go_wp2_with fail
          refine (mcheck_c V so sc co cc w4 AT4.out).mono ?_
          rintro E w6 ⟨rfl, hb6⟩
          cases hok : V.ok
          · have hn := NO.out (by
              cases hy : tkYes s
              · rfl
              · exact absurd (HY.out.1 hy).2.2.2 (by rw [hok]; decide))
            rw [(pt_no hok).2]
            obtain ⟨w7, s7, H7, _⟩ := (H4.to hb6).stA ty_man 0 rfl 0 #[.int .u64 0, .int .u8 0, .slice none 0 0, .slice none 0 0] (cs' := mcs mz none 0 none 0) rfl (L' := [(w.heap.size, 60, mcs mz none 0 none 0), (g8, 60, mcs V so sc co cc)]) rfl (Nat.le_of_ble_eq_true rfl) rfl rfl
            have HN := Lib.hid hn
            clear hok hn l4 s5 hX2
            go_wp2
            refine bodyPost_ret (shut_man _ 4 _ Tryz.results210 ty_man (H7.get 0 rfl) rfl rfl rfl) rfl ?_
            exact HN.out _ H7.be
          · have hy : tkYes s = true := HY.out.2 ⟨by rw [← HFU.out]; exact c1, c2, hX2, hok⟩
            rw [(pt_yes hok).2]
            have l6 := (H4.to hb6).ldA ty_man 1 rfl 0 (vs := mcs V so sc co cc) rfl (Nat.le_of_ble_eq_true rfl)
            obtain ⟨w7, s7, H7, q7⟩ := (H4.to hb6).stA ty_man 0 rfl 0 (mcs V so sc co cc) (cs' := mcs V so sc co cc) rfl (L' := [(w.heap.size, 60, mcs V so sc co cc), (g8, 60, mcs V so sc co cc)]) rfl (Nat.le_of_ble_eq_true rfl) rfl rfl
            have h9 : Hid (Q (.returned (.tuple #[.agg (mcs V so sc co cc), .int .i64 0])) w7) := by
              have e1 := HEE.out; have e2 := HMM.out
              rw [if_pos hy] at e1 e2
              show Q _ _
              rw [HQ.out, e1, e2]
              have hA6 := AT4.out.to hb6
              refine ⟨so, sc, co, cc, rfl, ⟨hA6.fit, ?_, ?_, hA6.l1, hA6.l2⟩, H7.be, N3.out⟩
              · exact ps_turn hA6.ps q7 (B := w.heap.size + 1) N4.out.1 (by omega)
              · exact ns_turn hA6.ns q7 (B := w.heap.size + 1) N4.out.2 (by omega)
            clear hok hy l4 s5 hX2
            go_wp2
            refine bodyPost_ret (shut_man _ 0 _ Tryz.results210 ty_man (H7.get 0 rfl) rfl rfl rfl) rfl ?_
            exact h9.out
        | cons b r =>
          have hq3 : ((str (b :: r)).toList == []) = false := by rw [ByteArray.toList_eq, str_data]; rfl
          have hemp : (str (b :: r)).toList.isEmpty = false := by rw [ByteArray.toList_eq, str_data]; rfl
          have hn := NO.out (by
            cases hy : tkYes s
            · rfl
            · exact absurd (HY.out.1 hy).2.2.1 (by rw [hX2]; simp))
          have HN := Lib.hid hn
          clear hn hX2 l4
          go_wp2
          refine bodyPost_ret (shut_man _ 4 _ Tryz.results210 ty_man (H5.get 0 rfl) rfl rfl rfl) rfl ?_
          exact HN.out _ H5.be
      · have hq2 : (X0 != 0) = true := by rw [bne_iff_ne]; exact c2
        have hn := NO.out (by
          cases hy : tkYes s
          · rfl
          · exact absurd (HY.out.1 hy).2.1 c2)
        have HN := Lib.hid hn
        clear hn l4 c2
        go_wp2
        refine bodyPost_ret (shut_man _ 4 _ Tryz.results210 ty_man (H5.get 0 rfl) rfl rfl rfl) rfl ?_
        exact HN.out _ H5.be
    · have hq1 : ((u : Int) != (s.length : Int)) = true := by rw [bne_iff_ne]; omega
      have hn := NO.out (by
        cases hy : tkYes s
        · rfl
        · exact absurd ((HFU.out).trans (HY.out.1 hy).1) c1)
      have HN := Lib.hid hn
      clear hn l4 c1
      go_wp2
      refine bodyPost_ret (shut_man _ 4 _ Tryz.results210 ty_man (H5.get 0 rfl) rfl rfl rfl) rfl ?_
      exact HN.out _ H5.be
  · have hE : e = fe s := by rw [HE.out]; exact if_neg hf
    have hM : m = mz := by rw [HM.out]; exact if_neg hf
    have HEM := Lib.hid (And.intro hE hM)
    have hq : (fe s != 0) = true := by rw [bne_iff_ne]; exact hf
    obtain ⟨f0, hf0⟩ : ∃ f0, f0 = fe s := ⟨_, rfl⟩
    rw [← hf0] at hq HEM ⊢
    clear hE hM hf hf0 HFS HE HM
    obtain ⟨w4, s4, H4, _⟩ := H1.stA ty_man 0 rfl 0 #[.int .u64 0, .int .u8 0, .slice none 0 0, .slice none 0 0] (cs' := mcs mz none 0 none 0) rfl (L' := [(w.heap.size, 60, mcs mz none 0 none 0)]) rfl (Nat.le_of_ble_eq_true rfl) rfl rfl
    go_wp2
    refine bodyPost_ret (shut_man _ f0 _ Tryz.results210 ty_man (H4.get 0 rfl) rfl rfl rfl) rfl ?_
    rw [HQ.out, HEM.out.1, HEM.out.2]
    exact man_none H4.be f0
end Go.Proofs.YtgeaacabpnepmaaGreatDoor
/- A power of a run's own; left, awake. -/
namespace Go.Proofs.YtgeaacabpnepmaaGreatDoor
open Go.RowKit
set_option linter.unusedVariables false
set_option linter.unusedSimpArgs false
set_option maxRecDepth 100000

def lastE (ks : List Int) : List Ent := aCrash ks (if oddK ks then aAppend 100 (aCreate [] [97]) [97] [120, 121, 122] else aCreate [] [97])
def p0 (ks : List Int) : Pw := ⟨1, ks, 0, false, []⟩
def p1 (ks : List Int) : Pw := ⟨1, ks, 1, false, aCreate [] [97]⟩
def p2 (ks : List Int) : Pw := ⟨1, ks, 2, true, lastE ks⟩
end Go.Proofs.YtgeaacabpnepmaaGreatDoor
