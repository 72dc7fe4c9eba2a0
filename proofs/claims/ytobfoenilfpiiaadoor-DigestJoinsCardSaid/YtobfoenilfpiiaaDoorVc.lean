/- Chains: the closure that goes on, the loop over pairs, the document's: one contract each. Nothing is assumed beyond each contract's own bounds. -/
import Derived.Test.YtobfoenilfpiiaaDoorVb
import Derived.Test.YtobfoenilfpiiaaDoorVp
namespace Go.Proofs.YtobfoenilfpiiaaDoor
open Go.RowKit
set_option linter.unusedVariables false
set_option linter.unusedSimpArgs false
set_option maxRecDepth 20000
attribute [local go_sem ↓] ld_u64 st_u64 ld_pair st_pair

theorem chained1_c (d a b g : Nat) (w : World) (hd : d < 18446744073709551616) (ha : a < 256) (hb : b < 256) (hg : Cells w g 22 #[.int .u64 (d : Int)]) :
    Calls Tryd.prog 36 #[.agg #[.int .u8 (a : Int), .int .u8 (b : Int)], .pointer (some ⟨g, 0, none⟩)] w fun E w' => E = .returned (.int .u64 ((dmx d (a, b) : Nat) : Int)) ∧ w.grownBy w' (some g) ∧ Cells w' g 22 #[.int .u64 ((dmx d (a, b) : Nat) : Int)] := by
  have HM := Lib.hid (fun W => mix_c d a b W hd ha hb)
  obtain ⟨e, he⟩ : ∃ e, e = dmx d (a, b) := ⟨_, rfl⟩
  rw [← he] at HM ⊢
  clear he
  have H0 := Lib.hid (show Loc g w w [(g, 22, #[.int .u64 (d : Int)])] from ⟨Nat.le_of_lt hg.lt, Below.refl _ _, fun e he => by simp at he; subst he; exact Nat.le_refl _, by simp, fun e he => by simp at he; subst he; exact hg⟩)
  have H1 : Hid (Loc g w (w.alloc (.cells #[.int .u8 (a : Int), .int .u8 (b : Int)] 37)) [(g, 22, #[.int .u64 (d : Int)]), (w.heap.size, 37, #[.int .u8 (a : Int), .int .u8 (b : Int)])]) := H0.out.more _ _
  have G1 := Lib.hid (grown_alloc w (.cells #[.int .u8 (a : Int), .int .u8 (b : Int)] 37))
  clear hg H0
  go_enter Tryd.func36, Tryd.ntmps36
  go_upto_region 1 with fail
  generalize w.alloc (.cells #[.int .u8 (a : Int), .int .u8 (b : Int)] 37) = wa at *
  have la1 := H1.out.ldO ty_u64 0 rfl 0 (v := .int .u64 (d : Int)) rfl
  have la2 := H1.out.ldA ty_pair 1 rfl 0 (vs := #[.int .u8 (a : Int), .int .u8 (b : Int)]) rfl (Nat.le_of_ble_eq_true rfl)
  go_wp2_with fail
  refine (HM.out _).mono ?_
  rintro E w1 ⟨rfl, hb1⟩
  have H2 := H1.out.to hb1
  have G2 := Lib.hid (G1.out.trans (grown_of_below hb1))
  obtain ⟨w2, sa2, H3, hq⟩ := H2.stO ty_u64 0 rfl 0 (.int .u64 (e : Int)) (cs' := #[.int .u64 (e : Int)]) rfl (L' := [(g, 22, #[.int .u64 (e : Int)]), (w.heap.size, 37, #[.int .u8 (a : Int), .int .u8 (b : Int)])]) rfl (Nat.le_of_ble_eq_true rfl) rfl rfl
  have la3 := H3.ldO ty_u64 0 rfl 0 (v := .int .u64 (e : Int)) rfl
  have G3 := Lib.hid hq
  clear la1 la2 hb1 H2 hq
  go_wp2
  go_ret
  exact ⟨rfl, (grown_any G2.out).trans G3.out, H3.get 0 rfl⟩
theorem chained_c (d : Nat) (w : World) :
    Calls Tryd.prog 22 #[.int .u64 (d : Int)] w fun E w' => ∃ g, E = .returned (.func (.func 36) #[] #[.pointer (some ⟨g, 0, none⟩)]) ∧ Loc w.heap.size w w' [(g, 22, #[.int .u64 (d : Int)])] := by
  have hmf : ∀ (fn : Fn) (first cap : Array Value) (w : World), (Instr.makeFunc fn first cap).run Tryd.prog w = .ok (.func fn first cap) w := fun _ _ _ _ => rfl
  have H0 := Lib.hid (Loc.one w 22 #[.int .u64 (d : Int)])
  go_enter Tryd.func22, Tryd.ntmps22
  go_wp2
  go_ret
  exact ⟨_, rfl, H0.out⟩
set_option maxHeartbeats 1000000 in
theorem chain_c (l : List (Nat × Nat)) (lo : Option Addr) (cap : Nat) (w : World) (hP : Pis w lo l) (hl : l.length ≤ maxLen) :
    Calls Tryd.prog 15 #[.slice lo l.length cap] w fun E w' => E = .returned (.int .u64 ((dch bas l : Nat) : Int)) ∧ Below w.heap.size w w' := by
  have HP := Lib.hid hP
  have hlm : l.length ≤ 9223372036854775807 := Nat.le_trans hl (by decide)
  clear hP hl
  go_enter Tryd.func15, Tryd.ntmps15
  go_wp2_with fail
  refine (chained_c bas _).mono ?_
  rintro E w1 ⟨g, rfl, H1⟩
  go_wp2
  go_loopw [3, 11] (fun v i wr => ∃ k : Nat, k ≤ l.length ∧ i = .int .i64 k ∧ v = .int .u64 ((dch bas (l.take k) : Nat) : Int) ∧ Hid (Loc w.heap.size w wr [(g, 22, #[.int .u64 ((dch bas (l.take k) : Nat) : Int)])])) (fun _ i _ => l.length - (intOf i).toNat)
  case atStart => exact ⟨0, by omega, rfl, rfl, H1⟩
  case round =>
    obtain ⟨k, hk, rfl, rfl, HR⟩ := hrel
    have hlt64 := dch_lt (l.take k) bas (by decide)
    by_cases hlt : k < l.length
    · obtain ⟨b0, o0, i, j, rfl, hi, hj, hx⟩ := HP.out.at k hlt
      have HN : Hid (dch bas (l.take (k + 1)) = dmx (dch bas (l.take k)) (i, j)) := by show _ = _; rw [dch_more l bas k hlt, hx]
      have la1 := pis_ld HP.out HR.out.be k hlt hx
      clear hx
      obtain ⟨gp, w2, hz, sa2, H2, _⟩ := HR.out.newA ty_pair #[.int .u8 0, .int .u8 0] #[.int .u8 (i : Int), .int .u8 (j : Int)] rfl rfl rfl
      replace H2 : Loc _ _ _ [(g, 22, #[.int .u64 ((dch bas (l.take k) : Nat) : Int)]), (gp, 37, #[.int .u8 (i : Int), .int .u8 (j : Int)])] := H2
      have la2 := H2.ldA ty_pair 1 rfl 0 (vs := #[.int .u8 (i : Int), .int .u8 (j : Int)]) rfl (Nat.le_of_ble_eq_true rfl)
      have HH2 := Lib.hid H2
      clear H2
      go_wp2_with fail
      refine (chained1_c (dch bas (l.take k)) i j g _ hlt64 hi hj (HH2.out.get 0 rfl)).mono ?_
      rintro E w3 ⟨rfl, hq, hc⟩
      have H3 := HH2.out.turn (k := 0) _ rfl rfl hq hc
      have H4 := Lib.hid (H3.drop 1 (L' := [(g, 22, #[.int .u64 ((dmx (dch bas (l.take k)) (i, j) : Nat) : Int)])]) rfl)
      clear hq hc H3 la1 la2 sa2 hz
      go_wp2
      go_roundw
      case rel => exact ⟨k + 1, by omega, by go_num, by rw [HN.out], by rw [HN.out]; exact H4.out⟩
      case measure => simp [intOf]; omega
    · obtain rfl : k = l.length := by omega
      rw [List.take_length] at HR ⊢
      go_wp2
      go_ret
      exact ⟨rfl, HR.out.be⟩
set_option maxHeartbeats 1000000 in
theorem refChain_c (l : List (Nat × Nat)) (lo : Option Addr) (cap : Nat) (w : World) (hP : Pis w lo l) (hl : l.length ≤ maxLen) :
    Calls Tryd.prog 16 #[.slice lo l.length cap] w fun E w' => E = .returned (.int .u64 ((dch bas l : Nat) : Int)) ∧ Below w.heap.size w w' := by
  have HP := Lib.hid hP
  have hlm : l.length ≤ 9223372036854775807 := Nat.le_trans hl (by decide)
  clear hP hl
  go_enter Tryd.func16, Tryd.ntmps16
  go_wp2
  go_loopw [3, 4] (fun v i wr => ∃ k : Nat, k ≤ l.length ∧ i = .int .i64 k ∧ v = .int .u64 ((dch bas (l.take k) : Nat) : Int) ∧ Hid (Below w.heap.size w wr)) (fun _ i _ => l.length - (intOf i).toNat)
  case atStart => exact ⟨0, by omega, rfl, rfl, Below.refl _ _⟩
  case round =>
    obtain ⟨k, hk, rfl, rfl, HR⟩ := hrel
    have hlt64 := dch_lt (l.take k) bas (by decide)
    by_cases hlt : k < l.length
    · obtain ⟨b0, o0, i, j, rfl, hi, hj, hx⟩ := HP.out.at k hlt
      have HN : Hid (dch bas (l.take (k + 1)) = dmx (dch bas (l.take k)) (i, j)) := by show _ = _; rw [dch_more l bas k hlt, hx]
      have la1 := pis_ld HP.out HR.out k hlt hx
      clear hx
      go_wp2_with fail
      refine (refMix_c (dch bas (l.take k)) i j _ hlt64 hi hj).mono ?_
      rintro E w3 ⟨rfl, hb3⟩
      have H4 := Lib.hid (HR.out.trans (hb3.mono HR.out.size))
      clear hb3 la1
      go_wp2
      go_roundw
      case rel => exact ⟨k + 1, by omega, by go_num, by rw [HN.out], H4.out⟩
      case measure => simp [intOf]; omega
    · obtain rfl : k = l.length := by omega
      rw [List.take_length]
      go_wp2
      go_ret
      exact ⟨rfl, HR.out⟩
end Go.Proofs.YtobfoenilfpiiaaDoor
