/- What a text names, by the document. One contract. -/
import Derived.Test.YtggeakngmlhjpaaNc
import Derived.Deep.DeepCutAuto
import Derived.BigQuiet
namespace Go.Proofs.Ytggeakngmlhjpaa
open Go.RowKit
set_option linter.unusedVariables false
set_option linter.unusedSimpArgs false
set_option maxRecDepth 20000

theorem new_len {l : List UInt8} (h : isNw l = true) : 4 ≤ l.length := by
  obtain ⟨m, hm⟩ := List.isSuffixOf_iff_suffix.1 (show nw.isSuffixOf l = true from h)
  rw [← hm, List.length_append]
  simp [nw]
theorem new_raw (l : List UInt8) (h : 4 ≤ l.length) : (((str l).extract (l.length - 4) l.length).toList == [46, 110, 101, 119]) = isNw l := by
  have := suf_cut l nw h
  rw [str_tl nw] at this
  exact this
theorem bse_new' {l : List UInt8} (h : isNw l = true) : (str l).extract 0 (l.length - 4) = str (bse l) := by
  rw [str_cut]
  unfold bse offS
  rw [if_pos (show nw.isSuffixOf l = true from h)]
  rfl
theorem lst_len {l : List UInt8} (hm : ¬ l = mani) (h : l.length ≠ 17) : lst l = (0, 0, false) := by
  cases l with
  | nil => rfl
  | cons c r =>
    have hr : rdd r = (0, false) := rdd_len (by simp only [List.length_cons] at h; omega)
    rw [lst, if_neg hm, nmb, nmb, hr]
    simp
theorem get_str (m : List UInt8) (k : Nat) (hk : k < m.length) : ∀ h, (str m)[k]'h = m[k]'hk := fun _ => rfl
theorem lst_seg' (r : List UInt8) (hl : r.length = 16) : lst (115 :: r) = nmb 1 r := by rw [lst, if_neg (mani_ne hl), if_pos rfl]
theorem lst_chk' (r : List UInt8) (hl : r.length = 16) : lst (99 :: r) = nmb 2 r := by rw [lst, if_neg (mani_ne hl), if_neg (by decide), if_pos rfl]
theorem lst_other (c : UInt8) (r : List UInt8) (hl : r.length = 16) (h1 : c ≠ 115) (h2 : c ≠ 99) : lst (c :: r) = (0, 0, false) := by rw [lst, if_neg (mani_ne hl), if_neg h1, if_neg h2]
theorem refParse_c (l : List UInt8) (w : World) (hl : l.length ≤ 9223372036854775807) :
    Calls Try.prog 14 #[.string (str l)] w fun e w' => e = .returned (.tuple #[.int .i64 ((prs l).1 : Nat), .int .u64 ((prs l).2.1 : Nat), .bool (prs l).2.2.1, .bool (prs l).2.2.2]) ∧ w = w' := by
  have hs := str_size l
  have HL := Lib.hid hl
  obtain ⟨R, hR⟩ : ∃ R, R = prs l := ⟨_, rfl⟩
  have HP := Lib.hid hR
  rw [← hR]
  clear hR
  go_enter Try.func14, Try.ntmps14
  go_upto_region 1 with fail
  go_cut [6] (fun f wx => f = .bool (isNw l) ∧ w = wx)
  case first =>
    by_cases h4 : 4 ≤ l.length
    · have hr := new_raw l h4
      have hlo : ((l.length : Int) - 4) = ((l.length - 4 : Nat) : Int) := by omega
      generalize isNw l = f at *
      go_wp2_with fail
      go_meet
      exact ⟨rfl, rfl⟩
    · have hr : isNw l = false := by
        cases hq : isNw l with
        | false => rfl
        | true => exact absurd (new_len hq) h4
      have HR := Lib.hid hr
      clear hr
      go_wp2_with fail
      go_meet
      exact ⟨by rw [HR.out], rfl⟩
  case rest =>
  obtain ⟨rfl, rfl⟩ := hcut
  go_upto_if 20 with fail
  go_cut [0, 6] (fun s f wx => s = .string (str (bse l)) ∧ f = .bool (isNw l) ∧ w = wx)
  case first =>
    cases hq : isNw l with
    | true =>
      have HB := Lib.hid (bse_new' hq)
      have h4 := new_len hq
      have hlo : ((l.length : Int) - 4) = ((l.length - 4 : Nat) : Int) := by omega
      have HQ := Lib.hid hq
      clear hq
      go_wp2_with fail
      go_meet
      exact ⟨congrArg Value.string HB.out, by rw [HQ.out], rfl⟩
    | false =>
      have HB := Lib.hid (bse_old hq)
      have HQ := Lib.hid hq
      clear hq
      go_wp2_with fail
      go_meet
      exact ⟨by rw [HB.out], by rw [HQ.out], rfl⟩
  case rest =>
  obtain ⟨rfl, rfl, rfl⟩ := hcut
  have hml := Nat.le_trans (bse_len l) HL.out
  have HR : Hid (R = ((lst (bse l)).1, (lst (bse l)).2.1, isNw l && (lst (bse l)).2.2, (lst (bse l)).2.2)) := HP.out
  clear HP hs hl HL
  generalize bse l = m at *
  generalize isNw l = f at *
  clear l
  have hs := str_size m
  by_cases hm : m = mani
  · have ht : ((str m).toList == [109, 97, 110, 105, 102, 101, 115, 116]) = true := str_is hm
    have hr : lst m = (3, 0, true) := by rw [hm]; exact lst_mani
    rw [hr] at HR
    clear hr hm
    go_wp2_with fail
    refine bodyPost_ret (v := .tuple #[.int .i64 3, .int .u64 0, .bool f, .bool true]) (by simp [results, Try.results14, go_sem]) rfl ?_
    exact ⟨by rw [HR.out]; simp, rfl⟩
  have ht : ((str m).toList == [109, 97, 110, 105, 102, 101, 115, 116]) = false := str_not hm
  by_cases h17 : m.length = 17
  · cases m with
    | nil => simp at h17
    | cons c r =>
    have hl : r.length = 16 := by simpa using h17
    have hg0 : ∀ h, (str (c :: r))[0]'h = c := fun h => rfl
    by_cases h1 : c = 115
    · subst h1
      clear hm
      have hr := lst_seg' r hl
      rw [hr] at HR
      have HY := Lib.hid (fun h => rdd_yes (l := r) hl h)
      have HN := Lib.hid (fun h => rdd_no (l := r) h)
      have HM : Hid (nmb 1 r = if (rdd r).2 then (1, (rdd r).1, true) else (0, 0, false)) := rfl
      clear hr
      go_wp2_with fail
      go_loop [7, 8] (fun v i => ∃ k : Nat, k ≤ 16 ∧ i = .int .i64 ((k : Int) + 1) ∧ v = .int .u64 ((vl (r.take k) 0 : Nat) : Int) ∧ hx (r.take k) = true) (fun _ i => 17 - (intOf i).toNat)
      case atStart => exact ⟨0, Nat.zero_le _, rfl, rfl, rfl⟩
      case round =>
        obtain ⟨k, hk, rfl, rfl, hok⟩ := hrel
        have HOK := Lib.hid hok
        clear hok
        by_cases hlt : k < 16
        · have hlt' : k < r.length := by omega
          have hg : ∀ h, (str (115 :: r))[k + 1]'h = r[k]'hlt' := fun h => rfl
          have hc := refDigit_c (r[k]'hlt') w
          have HX := Lib.hid (hx_step hlt')
          have HXN := Lib.hid (fun h => hx_no hlt' h)
          have HV := Lib.hid (vl_step hlt')
          have hsm := vl_small (l := r) (k := k) (by omega) (by omega)
          have hu := udg_range (r[k]'hlt')
          generalize vl (r.take k) 0 = n at *
          obtain ⟨u, HU⟩ : ∃ u, u = udg (r[k]'hlt') := ⟨_, rfl⟩
          rw [← HU] at hc HX HXN HV hu
          clear HU
          by_cases hneg : u < 0
          · have HQ := Lib.hid (HN.out (HXN.out hneg))
            clear hsm hu
            go_wp2_with fail
            refine hc.mono ?_
            rintro E w1 ⟨rfl, rfl⟩
            go_wp2_with fail
            refine bodyPost_ret (v := .tuple #[.int .i64 0, .int .u64 0, .bool false, .bool false]) (by simp [results, Try.results14, go_sem]) rfl ?_
            exact ⟨by rw [HR.out, HM.out, HQ.out]; simp, rfl⟩
          · obtain ⟨d, rfl⟩ : ∃ d : Nat, u = (d : Int) := ⟨u.toNat, by omega⟩
            have HOK2 : Hid (hx (r.take (k + 1)) = true) := by show _ = _; rw [HX.out, HOK.out]; simp
            have HV2 : Hid (vl (r.take (k + 1)) 0 = 16 * n + d) := by show _ = _; rw [HV.out]; rfl
            have hd : d < 16 := by omega
            have hc2 := hc
            clear hu
            go_wp2_with fail
            refine hc.mono ?_
            rintro E w1 ⟨rfl, rfl⟩
            go_wp2_with fail
            refine hc2.mono ?_
            rintro E w1 ⟨rfl, rfl⟩
            go_wp2_with fail
            go_round
            case rel => exact ⟨k + 1, by omega, by go_num, by rw [HV2.out]; go_num, HOK2.out⟩
            case measure => simp [intOf]; omega
        · obtain rfl : k = 16 := by omega
          have HQ := Lib.hid (HY.out (by have := HOK.out; rwa [← hl, List.take_length] at this))
          have HV : Hid (vl (r.take 16) 0 = vl r 0) := by show _ = _; rw [← hl, List.take_length]
          generalize vl (r.take 16) 0 = n at *
          go_wp2_with fail
          refine bodyPost_ret (v := .tuple #[.int .i64 1, .int .u64 (n : Int), .bool f, .bool true]) (by simp [results, Try.results14, go_sem]) rfl ?_
          exact ⟨by rw [HR.out, HM.out, HQ.out, HV.out]; simp, rfl⟩
    by_cases h2 : c = 99
    · subst h2
      clear hm h1
      have hr := lst_chk' r hl
      rw [hr] at HR
      have HY := Lib.hid (fun h => rdd_yes (l := r) hl h)
      have HN := Lib.hid (fun h => rdd_no (l := r) h)
      have HM : Hid (nmb 2 r = if (rdd r).2 then (2, (rdd r).1, true) else (0, 0, false)) := rfl
      clear hr
      go_wp2_with fail
      go_loop [7, 8] (fun v i => ∃ k : Nat, k ≤ 16 ∧ i = .int .i64 ((k : Int) + 1) ∧ v = .int .u64 ((vl (r.take k) 0 : Nat) : Int) ∧ hx (r.take k) = true) (fun _ i => 17 - (intOf i).toNat)
      case atStart => exact ⟨0, Nat.zero_le _, rfl, rfl, rfl⟩
      case round =>
        obtain ⟨k, hk, rfl, rfl, hok⟩ := hrel
        have HOK := Lib.hid hok
        clear hok
        by_cases hlt : k < 16
        · have hlt' : k < r.length := by omega
          have hg : ∀ h, (str (99 :: r))[k + 1]'h = r[k]'hlt' := fun h => rfl
          have hc := refDigit_c (r[k]'hlt') w
          have HX := Lib.hid (hx_step hlt')
          have HXN := Lib.hid (fun h => hx_no hlt' h)
          have HV := Lib.hid (vl_step hlt')
          have hsm := vl_small (l := r) (k := k) (by omega) (by omega)
          have hu := udg_range (r[k]'hlt')
          generalize vl (r.take k) 0 = n at *
          obtain ⟨u, HU⟩ : ∃ u, u = udg (r[k]'hlt') := ⟨_, rfl⟩
          rw [← HU] at hc HX HXN HV hu
          clear HU
          by_cases hneg : u < 0
          · have HQ := Lib.hid (HN.out (HXN.out hneg))
            clear hsm hu
            go_wp2_with fail
            refine hc.mono ?_
            rintro E w1 ⟨rfl, rfl⟩
            go_wp2_with fail
            refine bodyPost_ret (v := .tuple #[.int .i64 0, .int .u64 0, .bool false, .bool false]) (by simp [results, Try.results14, go_sem]) rfl ?_
            exact ⟨by rw [HR.out, HM.out, HQ.out]; simp, rfl⟩
          · obtain ⟨d, rfl⟩ : ∃ d : Nat, u = (d : Int) := ⟨u.toNat, by omega⟩
            have HOK2 : Hid (hx (r.take (k + 1)) = true) := by show _ = _; rw [HX.out, HOK.out]; simp
            have HV2 : Hid (vl (r.take (k + 1)) 0 = 16 * n + d) := by show _ = _; rw [HV.out]; rfl
            have hd : d < 16 := by omega
            have hc2 := hc
            clear hu
            go_wp2_with fail
            refine hc.mono ?_
            rintro E w1 ⟨rfl, rfl⟩
            go_wp2_with fail
            refine hc2.mono ?_
            rintro E w1 ⟨rfl, rfl⟩
            go_wp2_with fail
            go_round
            case rel => exact ⟨k + 1, by omega, by go_num, by rw [HV2.out]; go_num, HOK2.out⟩
            case measure => simp [intOf]; omega
        · obtain rfl : k = 16 := by omega
          have HQ := Lib.hid (HY.out (by have := HOK.out; rwa [← hl, List.take_length] at this))
          have HV : Hid (vl (r.take 16) 0 = vl r 0) := by show _ = _; rw [← hl, List.take_length]
          generalize vl (r.take 16) 0 = n at *
          go_wp2_with fail
          refine bodyPost_ret (v := .tuple #[.int .i64 2, .int .u64 (n : Int), .bool f, .bool true]) (by simp [results, Try.results14, go_sem]) rfl ?_
          exact ⟨by rw [HR.out, HM.out, HQ.out, HV.out]; simp, rfl⟩
    have hr := lst_other c r hl h1 h2
    rw [hr] at HR
    have b1 : ((c.toNat : Int) != 115) = true := by
      simp only [bne_iff_ne]
      exact fun e => h1 (UInt8.toNat_inj.1 (by show c.toNat = 115; omega))
    have b2 : ((c.toNat : Int) != 99) = true := by
      simp only [bne_iff_ne]
      exact fun e => h2 (UInt8.toNat_inj.1 (by show c.toNat = 99; omega))
    clear hr hm h1 h2
    go_wp2_with fail
    refine bodyPost_ret (v := .tuple #[.int .i64 0, .int .u64 0, .bool false, .bool false]) (by simp [results, Try.results14, go_sem]) rfl ?_
    exact ⟨by rw [HR.out]; simp, rfl⟩
  · have hr := lst_len hm h17
    rw [hr] at HR
    clear hr hm
    go_wp2_with fail
    refine bodyPost_ret (v := .tuple #[.int .i64 0, .int .u64 0, .bool false, .bool false]) (by simp [results, Try.results14, go_sem]) rfl ?_
    exact ⟨by rw [HR.out]; simp, rfl⟩
end Go.Proofs.Ytggeakngmlhjpaa
