/- DigestOn: the walk. Nothing is assumed beyond the bounds of the row's own types. -/
import Derived.Test.YtobfoenilfpiiaaDoorVd
import Derived.Deep.RegionHeld3
namespace Go.Proofs.YtobfoenilfpiiaaDoor
open Go.RowKit
set_option linter.unusedVariables false
set_option linter.unusedSimpArgs false
set_option maxRecDepth 20000
theorem ty_str : TyO 9 := tyo_of Tryd.underlying9 rfl (by kernel_rfl)
theorem ld_str (v : Value) : Instr.loadAt 9 v = ldT 9 v := rfl
attribute [local go_sem ↓] ld_str ld_u16 ld_pair
set_option maxHeartbeats 4000000 in
theorem law_on (d : Nat) (A B : List UInt8) (n : Nat) (l : List (Nat × Nat)) (lo : Option Addr) (cap : Nat) (w : World) (hd : d < 18446744073709551616) (hA : A.length ≤ maxLen) (hB : B.length ≤ maxLen) (hn : n < 65536) (hP : Pis w lo l) (hl : l.length ≤ cap) (hcap : cap ≤ maxLen) (hnil : lo = none → cap = 0) (ht : Tab w) :
    Calls Tryd.prog 5 #[.int .u64 (d : Int), .agg #[.string (str A), .string (str B), .int .u16 (n : Int)], .slice lo l.length cap] w fun E w' => E = .returned (.bool true) ∧ Below w.heap.size w w' := by
  have HP := Lib.hid hP
  have HT := Lib.hid ht
  have H0 := Lib.hid (Loc.one w 43 #[.string (str A), .string (str B), .int .u16 (n : Int)])
  have hsA := str_size A
  have hsB := str_size B
  have CJ1 : Hid (∀ W, Calls Tryd.prog 9 #[.int .u64 (d : Int), .string (str A)] W fun E w' => E = .returned (.int .u64 ((djn d A : Nat) : Int)) ∧ Below W.heap.size W w') := fun W => (join_c d A W hd hA).mono fun E w' h => ⟨h.1, h.2 ▸ Below.refl _ _⟩
  have CJ2 : Hid (∀ W, Calls Tryd.prog 9 #[.int .u64 ((djn d A : Nat) : Int), .string (str B)] W fun E w' => E = .returned (.int .u64 ((djn (djn d A) B : Nat) : Int)) ∧ Below W.heap.size W w') := fun W => (join_c _ B W (djn_lt A d hd) hB).mono fun E w' h => ⟨h.1, h.2 ▸ Below.refl _ _⟩
  have CJ3 : Hid (A.length ≤ 1500 → B.length ≤ 1500 → ∀ W, Calls Tryd.prog 9 #[.int .u64 (d : Int), .string (str A ++ str B)] W fun E w' => E = .returned (.int .u64 ((djn (djn d A) B : Nat) : Int)) ∧ Below W.heap.size W w') := fun h1 h2 W => by
    rw [str_append, ← djn_append]
    exact (join_c d (A ++ B) W hd (Nat.le_trans (by rw [List.length_append]; omega : _ ≤ 3000) (by decide))).mono fun E w' h => ⟨h.1, h.2 ▸ Below.refl _ _⟩
  obtain ⟨e1, he1⟩ : ∃ e, e = djn d A := ⟨_, rfl⟩
  rw [← he1] at CJ1 CJ2 CJ3
  obtain ⟨e2, he2⟩ : ∃ e, e = djn e1 B := ⟨_, rfl⟩
  rw [← he2] at CJ2 CJ3
  clear he1 he2
  clear hP ht
  go_enter Tryd.func5, Tryd.ntmps5
  go_upto_region 1 with fail
  generalize w.alloc (.cells #[.string (str A), .string (str B), .int .u16 (n : Int)] 43) = wa at *
  have la := H0.out.ldO ty_str 0 rfl 0 (v := .string (str A)) rfl
  have lb := H0.out.ldO ty_str 0 rfl 1 (v := .string (str B)) rfl
  have ln := H0.out.ldO ty_u16 0 rfl 2 (v := .int .u16 (n : Int)) rfl
  by_cases hc1 : 1500 < A.length
  · have hi1 : (1500 : Int) < (A.length : Int) := by omega
    go_wp2_with fail
    refine (works_c _ (tab_lo HT.out H0.out.be)).mono ?_
    rintro E w1 ⟨rfl, hb1⟩
    go_wp2
    go_ret
    exact ⟨rfl, (H0.out.to hb1).be⟩
  have hi1 : ¬ (1500 : Int) < (A.length : Int) := by omega
  by_cases hc2 : 1500 < B.length
  · have hi2 : (1500 : Int) < (B.length : Int) := by omega
    go_wp2_with fail
    refine (works_c _ (tab_lo HT.out H0.out.be)).mono ?_
    rintro E w1 ⟨rfl, hb1⟩
    go_wp2
    go_ret
    exact ⟨rfl, (H0.out.to hb1).be⟩
  have hi2 : ¬ (1500 : Int) < (B.length : Int) := by omega
  by_cases hc3 : 500 < l.length
  · have hi3 : (500 : Int) < (l.length : Int) := by omega
    go_wp2_with fail
    refine (works_c _ (tab_lo HT.out H0.out.be)).mono ?_
    rintro E w1 ⟨rfl, hb1⟩
    go_wp2
    go_ret
    exact ⟨rfl, (H0.out.to hb1).be⟩
  have hi3 : ¬ (500 : Int) < (l.length : Int) := by omega
  go_upto_region 3 with fail
  replace CJ3 := Lib.hid (CJ3.out (by omega) (by omega))
  have hcat : ¬ (9223372036854775807 < (str A).size + (str B).size) := by omega
  have la' := H0.out.onO ty_str 0 rfl 0 (v := .string (str A)) rfl
  have lb' := H0.out.onO ty_str 0 rfl 1 (v := .string (str B)) rfl
  clear la lb ln hc1 hi1 hc2 hi2 hi3 hsA hsB
  have o0 := G.On.drew wa.heap.size wa
  go_region_held3 (fun w' => G.On wa.heap.size wa w') (first | with_reducible assumption) (first
    | (go_at_call 9; (with_reducible refine (CJ1.out _).mono ?_); rintro E w7 ⟨rfl, hb7⟩; have o7 := G.on_step (wd := wa) (by assumption) hb7)
    | (go_at_call 9; (with_reducible refine (CJ2.out _).mono ?_); rintro E w7 ⟨rfl, hb7⟩; have o7 := G.on_step (wd := wa) (by assumption) hb7)
    | (go_at_call 9; (with_reducible refine (CJ3.out _).mono ?_); rintro E w7 ⟨rfl, hb7⟩; have o7 := G.on_step (wd := wa) (by assumption) hb7))
  have H1 := Lib.hid (H0.out.to (by assumption))
  clear la' lb' hcat
  rename_i w7 _ _ _
  obtain ⟨k, hk, hkl⟩ : ∃ k : Nat, (n : Int) % ((l.length : Int) + 1) = (k : Int) ∧ k ≤ l.length := ⟨n % (l.length + 1), by simp, by have := Nat.mod_lt n (show 0 < l.length + 1 by omega); omega⟩
  have ln := H1.out.ldO ty_u16 0 rfl 2 (v := .int .u16 (n : Int)) rfl
  go_upto_region 6 with fail
  rw [hk]
  clear hk ln
  have hkc : k ≤ cap := by omega
  have hl' : l.length ≤ maxLen := Nat.le_trans hl hcap
  have hlm : l.length ≤ 9223372036854775807 := Nat.le_trans hl' (by decide)
  have CF : Hid (∀ W, Below w.heap.size w W → Calls Tryd.prog 15 #[.slice lo l.length cap] W fun E w' => E = .returned (.int .u64 ((dch bas l : Nat) : Int)) ∧ Below W.heap.size W w') := fun W hW => chain_c l lo cap W (HP.out.to hW) hl'
  have CT : Hid (∀ W, Below w.heap.size w W → Calls Tryd.prog 15 #[.slice lo k cap] W fun E w' => E = .returned (.int .u64 ((dch bas (l.take k) : Nat) : Int)) ∧ Below W.heap.size W w') := fun W hW => by
    have := chain_c (l.take k) lo cap W ((HP.out.to hW).take k) (by rw [List.length_take]; omega)
    rwa [List.length_take, Nat.min_eq_left hkl] at this
  cases lo with
  | none =>
    obtain rfl : cap = 0 := hnil rfl
    obtain rfl : k = 0 := by omega
    have hl0 : l.length = 0 := by omega
    clear hl hcap hnil hkc hkl hc3 hl' hA hB hlm
    rw [List.take_zero] at CT
    obtain rfl : l = [] := List.length_eq_zero_iff.1 hl0
    go_wp2_with fail
    refine (CT.out _ H1.out.be).mono ?_
    rintro E w8 ⟨rfl, hb8⟩
    have H2 := Lib.hid (H1.out.to hb8)
    clear hb8 CT
    go_wp2
    go_loopw [8, 9] (fun v i wr => i = .int .i64 0 ∧ v = .int .u64 ((dch bas [] : Nat) : Int) ∧ Hid (Below w.heap.size w wr)) (fun _ i _ => 0)
    case atStart => exact ⟨rfl, rfl, H2.out.be⟩
    case round =>
      obtain ⟨rfl, rfl, HR⟩ := hrel
      go_wp2_with fail
      refine (CF.out _ HR.out).mono ?_
      rintro E w9 ⟨rfl, hb9⟩
      have H9 := Lib.hid (HR.out.trans (hb9.mono HR.out.size))
      clear hb9
      go_wp2_with fail
      refine (works_c _ (tab_lo HT.out H9.out)).mono ?_
      rintro E w10 ⟨rfl, hb10⟩
      go_wp2
      go_ret
      exact ⟨rfl, H9.out.trans (hb10.mono H9.out.size)⟩
  | some ad =>
    clear hnil hc3 hA hB
    go_wp2_with fail
    refine (CT.out _ H1.out.be).mono ?_
    rintro E w8 ⟨rfl, hb8⟩
    have H2 := Lib.hid (H1.out.to hb8)
    clear hb8 CT
    go_wp2
    go_loopw [8, 9] (fun v i wr => ∃ q : Nat, k ≤ q ∧ q ≤ l.length ∧ i = .int .i64 q ∧ v = .int .u64 ((dch bas (l.take q) : Nat) : Int) ∧ Hid (Below w.heap.size w wr)) (fun _ i _ => l.length - (intOf i).toNat)
    case atStart => exact ⟨k, Nat.le_refl _, hkl, rfl, rfl, H2.out.be⟩
    case round =>
      obtain ⟨q, hkq, hq, rfl, rfl, HR⟩ := hrel
      have hlt64 := dch_lt (l.take q) bas (by decide)
      by_cases hlt : q < l.length
      · obtain ⟨b0, o0', i, j, ead, hi, hj, hx⟩ := HP.out.at q hlt
        obtain rfl : ad = ⟨b0, o0', none⟩ := Option.some.inj ead
        have HN : Hid (dch bas (l.take (q + 1)) = dmx (dch bas (l.take q)) (i, j)) := by show _ = _; rw [dch_more l bas q hlt, hx]
        have la1 := pis_ld HP.out HR.out q hlt hx
        clear hx ead
        go_wp2_with fail
        refine (mix_c (dch bas (l.take q)) i j _ hlt64 hi hj).mono ?_
        rintro E w3 ⟨rfl, hb3⟩
        have H4 := Lib.hid (HR.out.trans (hb3.mono HR.out.size))
        clear hb3 la1
        go_wp2
        go_roundw
        case rel => exact ⟨q + 1, by omega, by omega, by go_num, by rw [HN.out], H4.out⟩
        case measure => simp [intOf]; omega
      · obtain rfl : q = l.length := by omega
        rw [List.take_length]
        go_wp2_with fail
        refine (CF.out _ HR.out).mono ?_
        rintro E w9 ⟨rfl, hb9⟩
        have H9 := Lib.hid (HR.out.trans (hb9.mono HR.out.size))
        clear hb9
        go_wp2_with fail
        refine (works_c _ (tab_lo HT.out H9.out)).mono ?_
        rintro E w10 ⟨rfl, hb10⟩
        go_wp2
        go_ret
        exact ⟨rfl, H9.out.trans (hb10.mono H9.out.size)⟩

end Go.Proofs.YtobfoenilfpiiaaDoor
