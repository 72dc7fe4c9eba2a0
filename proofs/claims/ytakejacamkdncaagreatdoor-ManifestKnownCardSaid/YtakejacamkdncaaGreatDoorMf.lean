/- A manifest read from a reader, by the program: its contract. -/
import Derived.Test.YtakejacamkdncaaGreatDoorMe
namespace Go.Proofs.YtakejacamkdncaaGreatDoor
open Go.RowKit
set_option linter.unusedVariables false
set_option linter.unusedSimpArgs false
set_option maxRecDepth 20000
attribute [local go_sem ↓] ld_man ld_parts ld_nums ld_u64 ld_u8 st_man st_parts st_nums st_u64 st_u8

def ReadPost (w : World) (gr : Nat) (l : List UInt8) (R : Ending) (w' : World) : Prop :=
  ∃ so sc co cc, R = .returned (.agg (mcs (rdM l).val so sc co cc)) ∧ PsAt w' so (rdM l).val.sg ∧ NsAt w' co (rdM l).val.ck ∧ Rd w' gr (rdM l).rest (rdM l).err ∧ w.grownBy w' (some gr) ∧ (∀ a, so = some a → w.heap.size ≤ a.block) ∧ (∀ a, co = some a → w.heap.size ≤ a.block) ∧ (co = none → cc = 0)
theorem rdS_snoc (k : Nat) (l : List UInt8) : rdS (k + 1) l = ⟨fin (fin (rdS k l).err (num 8 (rdS k l).rest).err) (num 8 (num 8 (rdS k l).rest).rest).err, (rdS k l).val ++ [((num 8 (rdS k l).rest).val, (num 8 (num 8 (rdS k l).rest).rest).val)], (num 8 (num 8 (rdS k l).rest).rest).rest⟩ := by
  unfold rdS
  rw [many_snoc]
  simp only [rd2, fin_fin]
theorem rdC_snoc (k : Nat) (l : List UInt8) : rdC (k + 1) l = ⟨fin (rdC k l).err (num 8 (rdC k l).rest).err, (rdC k l).val ++ [(num 8 (rdC k l).rest).val], (num 8 (rdC k l).rest).rest⟩ := by
  unfold rdC
  rw [many_snoc]
theorem rdS_len (k : Nat) (l : List UInt8) : (rdS k l).val.length = k := many_len _ _ _ _
theorem rdC_len (k : Nat) (l : List UInt8) : (rdC k l).val.length = k := many_len _ _ _ _
theorem RS.out {w wr : World} {gr sc cc : Nat} {m : Mf} {so co : Option Addr} {l : List UInt8} {e : Int} (h : RS w gr m so sc co cc l e wr) : PsAt wr so m.sg ∧ NsAt wr co m.ck := ⟨(told_part h.ps rfl).1, (told_num h.ns rfl).1⟩
set_option maxHeartbeats 4000000 in
theorem mread_c (gr : Nat) (l : List UInt8) (w : World) (h : Rd w gr l 0) :
    Calls Tryz.prog 53 #[.pointer (some ⟨gr, 0, none⟩)] w (ReadPost w gr l) := by
  have H0 := Loc.two w 34 34 (mcs mz none 0 none 0) (mcs mz none 0 none 0)
  have hR0 : RS w gr mz none 0 none 0 l 0 ((w.alloc (.cells (mcs mz none 0 none 0) 34)).alloc (.cells (mcs mz none 0 none 0) 34)) :=
    ⟨H0.re, Grw.none _ _ _ _ _ (fun b hb => by
      have h1 := H0.low (e := (w.heap.size + 1, 34, mcs mz none 0 none 0)) (by simp)
      simp only [List.mem_cons, List.not_mem_nil, or_false] at hb
      rcases hb with rfl | rfl <;> dsimp only at h1 <;> omega), Grw.none _ _ _ _ _ (fun b hb => by
      have h1 := H0.low (e := (w.heap.size + 1, 34, mcs mz none 0 none 0)) (by simp)
      simp only [List.mem_cons, List.not_mem_nil, or_false] at hb
      rcases hb with rfl | rfl <;> dsimp only at h1 <;> omega), rd_on h (grown_of_below H0.be), grown_of_below H0.be, h.1.lt⟩
  obtain ⟨Q, hQ⟩ : ∃ Q, Q = ReadPost w gr l := ⟨_, rfl⟩
  rw [← hQ]
  have HQ := Lib.hid hQ
  have R0 := Lib.hid hR0
  have hz : (#[.int .u64 0, .int .u8 0, .slice none 0 0, .slice none 0 0] : Array Value) = mcs mz none 0 none 0 := rfl
  have HZ := Lib.hid hz
  clear hQ hR0 h H0 hz
  go_enter Tryz.func53, Tryz.ntmps53
  go_upto_region 2 with fail
  rw [HZ.out]
  generalize (w.alloc (.cells (mcs mz none 0 none 0) 34)).alloc (.cells (mcs mz none 0 none 0) 34) = wa at *
  clear HZ
  go_wp2_with fail
  refine (rdU64 gr l 0 _ R0.out.rd).mono ?_
  rintro E w1 ⟨rfl, hr1⟩
  obtain ⟨a, ha⟩ : ∃ a, a = num 8 l := ⟨_, rfl⟩
  rw [← ha] at hr1 ⊢
  have HA := Lib.hid ha
  obtain ⟨w2, s2, r2⟩ := (R0.out.call hr1).ep a.val
  have R2 := Lib.hid r2
  clear hr1 R0 r2 ha
  go_wp2_with fail
  clear s2
  refine (rdU8 gr a.rest _ _ R2.out.rd).mono ?_
  rintro E w3 ⟨rfl, hr3⟩
  obtain ⟨b, hb⟩ : ∃ b, b = num 1 a.rest := ⟨_, rfl⟩
  rw [← hb] at hr3 ⊢
  have HB := Lib.hid hb
  obtain ⟨w4, s4, r4⟩ := (R2.out.call hr3).pl b.val
  have R4 := Lib.hid r4
  clear hr3 R2 r4 hb
  go_wp2_with fail
  clear s4
  refine (rdU8 gr b.rest _ _ R4.out.rd).mono ?_
  rintro E w5 ⟨rfl, hr5⟩
  have hc256 := n1_lt b.rest
  obtain ⟨c, hc⟩ : ∃ c, c = num 1 b.rest := ⟨_, rfl⟩
  rw [← hc] at hr5 hc256 ⊢
  have HC := Lib.hid hc
  have R5 := Lib.hid (R4.out.call hr5)
  obtain ⟨e0, he0⟩ : ∃ e0, e0 = fin (fin (fin 0 a.err) b.err) c.err := ⟨_, rfl⟩
  rw [← he0] at R5
  have HE0 := Lib.hid he0
  clear hr5 R4 hc he0
  go_wp2
  go_loopw [13] (fun i wr => ∃ (k : Nat) (so : Option Addr) (sc : Nat), k ≤ c.val ∧ i = .int .u8 (k : Int) ∧ Hid (RS w gr ⟨a.val, b.val, (rdS k c.rest).val, []⟩ so sc none 0 (rdS k c.rest).rest (fin e0 (rdS k c.rest).err) wr)) (fun i _ => c.val - (intOf i).toNat)
  case atStart => exact ⟨0, none, 0, Nat.zero_le _, rfl, by show RS _ _ _ _ _ _ _ _ _ _; simpa [rdS, many, fin_zero, mz] using R5.out⟩
  case round =>
    obtain ⟨k, so, sc, hk, rfl, HR⟩ := hrel
    clear R5
    by_cases hlt : k < c.val
    · have HSN := Lib.hid (rdS_snoc k c.rest)
      have hlen := rdS_len k c.rest
      obtain ⟨X, hX⟩ : ∃ X, X = rdS k c.rest := ⟨_, rfl⟩
      rw [← hX] at HSN HR hlen
      have HLEN := Lib.hid hlen
      clear hX hlen
      go_wp2_with fail
      refine (rdU64 gr _ _ _ HR.out.rd).mono ?_
      rintro E w6 ⟨rfl, hr6⟩
      have R6 := Lib.hid (HR.out.call hr6)
      clear hr6 HR
      obtain ⟨p1, hp1⟩ : ∃ p1, p1 = num 8 X.rest := ⟨_, rfl⟩
      rw [← hp1] at R6 HSN ⊢
      clear hp1
      go_upto_region 7 with fail
      have R7 := Lib.hid R6.out.drew
      have a1 := fun W (hW : Cells W (w.heap.size + 1) 34 (mcs ⟨a.val, b.val, X.val, []⟩ so sc none 0)) => run_ldO ty_parts hW 2 (v := .slice so X.val.length sc) rfl
      have o0 : Cells w6.drew (w.heap.size + 1) 34 (mcs ⟨a.val, b.val, X.val, []⟩ so sc none 0) := R7.out.L.get 1 rfl
      clear R6
      refine wp_region_till (S := fun W => Cells W (w.heap.size + 1) 34 (mcs ⟨a.val, b.val, X.val, []⟩ so sc none 0)) (by kernel_rfl) ?_
      refine wpTill_take (i := 0) (v := ?v0) rfl (by kernel_rfl) (fun _ _ _ h => h) (Or.inl ⟨by rfl, ?hy0⟩) o0 ?rest0
      case hy0 => (intro W hW; (try dsimp only at hW); go_simp; try with_reducible rfl)
      simp only [Act.put, List.setIfInBounds_toArray, List.set_cons_zero, List.set_cons_succ, List.getElem_toArray, List.getElem_cons_succ, List.getElem_cons_zero]
      refine wpTill_take (i := 1) (v := ?v1) rfl (by kernel_rfl) (fun _ _ _ h => h) (Or.inl ⟨by rfl, ?hy1⟩) o0 ?rest1
      case hy1 => (intro W hW; (try dsimp only at hW); go_simp; try with_reducible rfl)
      simp only [Act.put, List.setIfInBounds_toArray, List.set_cons_zero, List.set_cons_succ, List.getElem_toArray, List.getElem_cons_succ, List.getElem_cons_zero]
      refine wpTill_take (i := 2) (v := ?v2) rfl (by kernel_rfl) (fun _ _ _ h => h) (Or.inl ⟨by rfl, ?hy2⟩) o0 ?rest2
      case hy2 => (intro W hW; (try dsimp only at hW); go_simp; try with_reducible rfl)
      simp only [Act.put, List.setIfInBounds_toArray, List.set_cons_zero, List.set_cons_succ, List.getElem_toArray, List.getElem_cons_succ, List.getElem_cons_zero]
      refine wpTill_take (i := 3) (v := ?v3) rfl (by kernel_rfl) (fun _ _ _ h => h) (Or.inl ⟨by rfl, ?hy3⟩) o0 ?rest3
      case hy3 => (intro W hW; (try dsimp only at hW); go_simp; try with_reducible rfl)
      simp only [Act.put, List.setIfInBounds_toArray, List.set_cons_zero, List.set_cons_succ, List.getElem_toArray, List.getElem_cons_succ, List.getElem_cons_zero]
      refine wpTill_run (i := 4) (by kernel_rfl) rfl o0 (fun K hK => ?_)
      go_simp
      go_at_call 89
      refine (rdU64 gr _ _ _ R7.out.rd).mono ?_
      rintro E w8 ⟨rfl, hr8⟩
      have R8 := Lib.hid (R7.out.call hr8)
      clear hr8 R7 o0
      obtain ⟨p2, hp2⟩ : ∃ p2, p2 = num 8 p1.rest := ⟨_, rfl⟩
      rw [← hp2] at R8 HSN ⊢
      clear hp2
      have o8 : Cells w8 (w.heap.size + 1) 34 (mcs ⟨a.val, b.val, X.val, []⟩ so sc none 0) := R8.out.L.get 1 rfl
      refine hK _ _ ?_
      clear hK K
      refine wpTill_run (i := 5) (by kernel_rfl) rfl o8 (fun K hK => ?_)
      go_simp
      refine hK _ _ ?_
      clear hK K
      refine wpTill_run (i := 6) (by kernel_rfl) rfl o8 (fun K hK => ?_)
      go_simp
      have R9 := Lib.hid (R8.out.alloc (.cells (gpv (p1.val, p2.val)).toArray 61))
      have o9 : Cells (w8.alloc (.cells (gpv (p1.val, p2.val)).toArray 61)) (w.heap.size + 1) 34 (mcs ⟨a.val, b.val, X.val, []⟩ so sc none 0) := R9.out.L.get 1 rfl
      refine hK _ _ ?_
      clear hK K
      refine wpTill_run (i := 7) (by kernel_rfl) rfl o9 (fun K hK => ?_)
      refine step_append_part Tryz.underlying31 info_part rfl _ _ rfl (by simp [Act.eval]) (p1.val, p2.val) (by simp [Act.eval]) R8.out.ps R8.out.L (Nat.le_refl _) R8.out.L.size (by simp) (by have := HLEN.out; simp; omega) ?_
      intro r' cap' w10 hr10 hl10 hg10
      obtain ⟨w11, s11, r11⟩ := R8.out.part (p1.val, p2.val) hr10 hl10 hg10
      have R11 := Lib.hid r11
      have o10 : Cells w10 (w.heap.size + 1) 34 (mcs ⟨a.val, b.val, X.val, []⟩ so sc none 0) := hl10.get 1 rfl
      clear hr10 hl10 hg10 r11 R9 R8
      refine hK _ _ ?_
      clear hK K
      refine wpTill_run (i := 8) (by kernel_rfl) rfl o10 (fun K hK => ?_)
      go_simp
      refine hK _ _ ?_
      clear hK K
      refine wpTill_run (i := 9) (by kernel_rfl) rfl o10 (fun K hK => ?_)
      go_simp
      refine hK _ _ ?_
      clear hK K
      refine wpTill_done (by kernel_rfl) ?_
      clear a1 o8 o9 o10 s11
      go_wp2
      go_roundw
      case rel => exact ⟨k + 1, _, _, by omega, by go_num, by show RS _ _ _ _ _ _ _ _ _ _; rw [HSN.out]; simpa [fin_fin] using R11.out⟩
      case measure => simp [intOf]; omega
    · obtain rfl : k = c.val := by omega
      have hlen := rdS_len c.val c.rest
      obtain ⟨X, hX⟩ : ∃ X, X = rdS c.val c.rest := ⟨_, rfl⟩
      rw [← hX] at HR hlen
      have HX := Lib.hid hX
      clear hX hlen hlt hk
      go_wp2_with fail
      refine (rdU8 gr _ _ _ HR.out.rd).mono ?_
      rintro E w6 ⟨rfl, hr6⟩
      have hd256 := n1_lt X.rest
      obtain ⟨d, hd⟩ : ∃ d, d = num 1 X.rest := ⟨_, rfl⟩
      rw [← hd] at hr6 hd256 ⊢
      have HD := Lib.hid hd
      have R6 := Lib.hid (HR.out.call hr6)
      obtain ⟨e1, he1⟩ : ∃ e1, e1 = fin (fin e0 X.err) d.err := ⟨_, rfl⟩
      rw [← he1] at R6
      have HE1 := Lib.hid he1
      clear hr6 HR hd he1
      go_wp2
      go_loopw [29] (fun i wr => ∃ (k : Nat) (co : Option Addr) (cc : Nat), k ≤ d.val ∧ i = .int .u8 (k : Int) ∧ Hid (RS w gr ⟨a.val, b.val, X.val, (rdC k d.rest).val⟩ so sc co cc (rdC k d.rest).rest (fin e1 (rdC k d.rest).err) wr)) (fun i _ => d.val - (intOf i).toNat)
      case atStart => exact ⟨0, none, 0, Nat.zero_le _, rfl, by show RS _ _ _ _ _ _ _ _ _ _; simpa [rdC, many, fin_zero] using R6.out⟩
      case round =>
        obtain ⟨k, co, cc, hk, rfl, HR⟩ := hrel
        clear R6
        by_cases hlt : k < d.val
        · have HSN := Lib.hid (rdC_snoc k d.rest)
          have hlen := rdC_len k d.rest
          obtain ⟨Y, hY⟩ : ∃ Y, Y = rdC k d.rest := ⟨_, rfl⟩
          rw [← hY] at HSN HR hlen
          have HLEN := Lib.hid hlen
          clear hY hlen
          go_upto_region 11 with fail
          have R7 := Lib.hid HR.out.drew
          clear HR
          have a1 := fun W (hW : Cells W (w.heap.size + 1) 34 (mcs ⟨a.val, b.val, X.val, Y.val⟩ so sc co cc)) => run_ldO ty_nums hW 3 (v := .slice co Y.val.length cc) rfl
          have o0 := R7.out.L.get 1 rfl
          refine wp_region_till (S := fun W => Cells W (w.heap.size + 1) 34 (mcs ⟨a.val, b.val, X.val, Y.val⟩ so sc co cc)) (by kernel_rfl) ?_
          refine wpTill_take (i := 0) (v := ?vb0) rfl (by kernel_rfl) (fun _ _ _ h => h) (Or.inl ⟨by rfl, ?hyb0⟩) o0 ?restb0
          case hyb0 => (intro W hW; (try dsimp only at hW); go_simp; try with_reducible rfl)
          simp only [Act.put, List.setIfInBounds_toArray, List.set_cons_zero, List.set_cons_succ, List.getElem_toArray, List.getElem_cons_succ, List.getElem_cons_zero]
          refine wpTill_take (i := 1) (v := ?vb1) rfl (by kernel_rfl) (fun _ _ _ h => h) (Or.inl ⟨by rfl, ?hyb1⟩) o0 ?restb1
          case hyb1 => (intro W hW; (try dsimp only at hW); go_simp; try with_reducible rfl)
          simp only [Act.put, List.setIfInBounds_toArray, List.set_cons_zero, List.set_cons_succ, List.getElem_toArray, List.getElem_cons_succ, List.getElem_cons_zero]
          refine wpTill_take (i := 2) (v := ?vb2) rfl (by kernel_rfl) (fun _ _ _ h => h) (Or.inl ⟨by rfl, ?hyb2⟩) o0 ?restb2
          case hyb2 => (intro W hW; (try dsimp only at hW); go_simp; try with_reducible rfl)
          simp only [Act.put, List.setIfInBounds_toArray, List.set_cons_zero, List.set_cons_succ, List.getElem_toArray, List.getElem_cons_succ, List.getElem_cons_zero]
          refine wpTill_run (i := 3) (by kernel_rfl) rfl o0 (fun K hK => ?_)
          go_simp
          go_at_call 89
          refine (rdU64 gr _ _ _ R7.out.rd).mono ?_
          rintro E w8 ⟨rfl, hr8⟩
          have R8 := Lib.hid (R7.out.call hr8)
          clear hr8 R7 o0
          obtain ⟨p2, hp2⟩ : ∃ p2, p2 = num 8 Y.rest := ⟨_, rfl⟩
          rw [← hp2] at R8 HSN ⊢
          clear hp2
          have o8 := R8.out.L.get 1 rfl
          refine hK _ _ ?_
          clear hK K
          refine wpTill_run (i := 4) (by kernel_rfl) rfl o8 (fun K hK => ?_)
          go_simp
          have R9 := Lib.hid (R8.out.alloc (.cells (gnv p2.val).toArray 30))
          have o9 := R9.out.L.get 1 rfl
          refine hK _ _ ?_
          clear hK K
          refine wpTill_run (i := 5) (by kernel_rfl) rfl o9 (fun K hK => ?_)
          refine step_append_num Tryz.underlying32 info_num rfl _ _ rfl (by simp [Act.eval]) p2.val (by simp [Act.eval]) R8.out.ns R8.out.L (Nat.le_refl _) R8.out.L.size (by simp) (by have := HLEN.out; simp; omega) ?_
          intro r' cap' w10 hr10 hl10 hg10
          obtain ⟨w11, s11, r11⟩ := R8.out.num p2.val hr10 hl10 hg10
          have R11 := Lib.hid r11
          have o10 := hl10.get 1 rfl
          clear hr10 hl10 hg10 r11 R9 R8
          refine hK _ _ ?_
          clear hK K
          refine wpTill_run (i := 6) (by kernel_rfl) rfl o10 (fun K hK => ?_)
          go_simp
          refine hK _ _ ?_
          clear hK K
          refine wpTill_run (i := 7) (by kernel_rfl) rfl o10 (fun K hK => ?_)
          go_simp
          refine hK _ _ ?_
          clear hK K
          refine wpTill_done (by kernel_rfl) ?_
          clear a1 o8 o9 o10 s11
          go_wp2
          go_roundw
          case rel => exact ⟨k + 1, _, _, by omega, by go_num, by show RS _ _ _ _ _ _ _ _ _ _; rw [HSN.out]; simpa [fin_fin] using R11.out⟩
          case measure => simp [intOf]; omega
        · obtain rfl : k = d.val := by omega
          have hval : rdM l = ⟨fin (fin (fin (fin (fin a.err b.err) c.err) X.err) d.err) (rdC d.val d.rest).err, ⟨a.val, b.val, X.val, (rdC d.val d.rest).val⟩, (rdC d.val d.rest).rest⟩ := by
            unfold rdM
            dsimp only
            rw [← HA.out, ← HB.out, ← HC.out, ← HX.out, ← HD.out]
          obtain ⟨Y, hY⟩ : ∃ Y, Y = rdC d.val d.rest := ⟨_, rfl⟩
          rw [← hY] at HR hval
          have HV := Lib.hid hval
          have l1 := HR.out.L.ldA ty_man 1 rfl 0 (vs := mcs ⟨a.val, b.val, X.val, Y.val⟩ so sc co cc) rfl (Nat.le_of_ble_eq_true rfl)
          obtain ⟨w12, s12, H12, q12⟩ := HR.out.L.stA ty_man 0 rfl 0 (mcs ⟨a.val, b.val, X.val, Y.val⟩ so sc co cc) (cs' := mcs ⟨a.val, b.val, X.val, Y.val⟩ so sc co cc) rfl (L' := [(w.heap.size, 34, mcs ⟨a.val, b.val, X.val, Y.val⟩ so sc co cc), (w.heap.size + 1, 34, mcs ⟨a.val, b.val, X.val, Y.val⟩ so sc co cc)]) rfl (Nat.le_of_ble_eq_true rfl) rfl rfl
          have hps0 := told_part (HR.out.ps.turn (by simp) q12) rfl
          have hns0 := told_num (HR.out.ns.turn (by simp) q12) rfl
          have hps := hps0.1
          have hns := hns0.1
          have NW := Lib.hid (show (∀ a, so = some a → w.heap.size ≤ a.block) ∧ (∀ a, co = some a → w.heap.size ≤ a.block) ∧ (co = none → cc = 0) from ⟨fun a e => (hps0.2.1 a e).1, fun a e => (hns0.2.1 a e).1, hns0.2.2.2.2⟩)
          clear hps0 hns0
          have hrd := rd_past HR.out.rd q12 (by have := HR.out.lt; omega)
          have hgg := g_then HR.out.g H12.be
          have P12 := Lib.hid (And.intro hps (And.intro hns (And.intro hrd hgg)))
          clear hY hval hlt hps hns hrd hgg hk q12
          go_wp2
          refine bodyPost_ret (ret_struct Tryz.underlying34 ty_man _ 2 _ Tryz.results53 (H12.get 0 rfl) rfl rfl) rfl ?_
          rw [HQ.out]
          unfold ReadPost
          rw [HV.out]
          refine ⟨so, sc, co, cc, rfl, P12.out.1, P12.out.2.1, ?_, P12.out.2.2.2, NW.out⟩
          have h9 := P12.out.2.2.1
          rw [HE1.out, HE0.out] at h9
          simpa [fin_of] using h9
end Go.Proofs.YtakejacamkdncaaGreatDoor
