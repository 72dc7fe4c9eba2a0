/- DiskSure: the walk. -/
import Derived.Test.YtecchaogpcpooaaDz
import Derived.Test.YtecchaogpcpooaaDp
namespace Go.Proofs.Ytecchaogpcpooaa
open Go.RowKit Go.Shelf
set_option linter.unusedVariables false
set_option linter.unusedSimpArgs false
set_option maxRecDepth 100000

theorem Lst.nmAt {w : World} {B : Nat} {uo : Option Addr} {uc : Nat} {E : List Ent} (h : Lst w B (.slice uo E.length uc) (E.map Ent.nm)) {k : Nat} (hk : k < E.length) :
    ∃ g, uo = some ⟨g, 0, none⟩ ∧ ∀ W, Below w.heap.size w W → W.cell? ⟨g, k, none⟩ = some (.string (str (E[k]'hk).nm)) := by
  obtain ⟨g, cap, e, hc⟩ := h.at (k := k) (by rw [List.length_map]; exact hk)
  have e2 : uo = some ⟨g, 0, none⟩ := by injection e
  refine ⟨g, e2, fun W hW => ?_⟩
  rw [Nat.zero_add] at hc
  rw [hW.cell (p := ⟨g, k, none⟩) (World.block_lt_of_cell? w _ hc), hc, List.getElem_map]
theorem nm_short {q : Nat} {E : List Ent} (h : Good q E) {j : Nat} (hj : j < E.length) : (E[j]'hj).nm.length ≤ 32 := by
  have := h.nms _ (List.getElem_mem hj)
  simp [isNm] at this
  exact this.1.2
attribute [local go_sem ↓] ld_act
set_option maxHeartbeats 4000000 in
theorem law_sure (qi : Int) (l : List Act2) (lo : Option Addr) (cap : Nat) (k0 k1 : Option Addr) (s0 s1 : List Int) (c0 c1 : Nat) (w : World) (hA : Acs w lo l) (hl : l.length ≤ maxLen)
    (hi0 : Ints w k0 s0) (hi1 : Ints w k1 s1) (hs0 : s0.length ≤ maxLen) (hs1 : s1.length ≤ maxLen) (hl0 : ∀ x, k0 = some x → s0 ≠ [] → x.block < w.heap.size) (hl1 : ∀ x, k1 = some x → s1 ≠ [] → x.block < w.heap.size) :
    Calls Try.prog 4 #[.int .i64 qi, .slice lo l.length cap, .agg #[.slice k0 s0.length c0, .slice k1 s1.length c1]] w fun E w' => E = .returned (.bool true) ∧ Below w.heap.size w w' := by
  have HA := Lib.hid hA
  have HL := Lib.hid hl
  have HI0 := Lib.hid hi0
  have HI1 := Lib.hid hi1
  have HS0 := Lib.hid hs0
  have HS1 := Lib.hid hs1
  have HL0 := Lib.hid hl0
  have HL1 := Lib.hid hl1
  clear hA hl hi0 hi1 hs0 hs1 hl0 hl1
  obtain ⟨n0, hn0⟩ : ∃ n0, s0.length = n0 := ⟨_, rfl⟩
  obtain ⟨n1, hn1⟩ : ∃ n1, s1.length = n1 := ⟨_, rfl⟩
  rw [hn0, hn1]
  have HN0 := Lib.hid hn0
  have HN1 := Lib.hid hn1
  clear hn0 hn1
  have HBW := Lib.hid (below_alloc w (.cells #[.slice k0 n0 c0, .slice k1 n1 c1] 38))
  have HCB := Lib.hid (Cells.made w 38 #[.slice k0 n0 c0, .slice k1 n1 c1])
  go_enter Try.func4, Try.ntmps4
  go_wp2_with fail
  generalize w.alloc (.cells #[.slice k0 n0 c0, .slice k1 n1 c1] 38) = wk at *
  refine (new_c qi wk).mono ?_
  rintro R w1 ⟨hb1, ⟨hq1, hq2, v, rfl, hd1⟩ | ⟨hbad, rfl⟩⟩
  rotate_left
  · have HB1 := Lib.hid hb1
    clear hb1 hbad
    go_wp2_with fail
    refine (few_c w1 (HA.out.to (HBW.out.trans (HB1.out.mono HBW.out.size))) HL.out).mono ?_
    rintro R w2 ⟨z, rfl, rfl⟩
    cases z
    all_goals (
      go_wp2_with fail
      refine (works_c w1).mono ?_
      rintro R w5 ⟨rfl, hb5⟩
      go_wp2
      go_ret
      exact ⟨rfl, HBW.out.trans ((HB1.out.trans (hb5.mono HB1.out.size)).mono HBW.out.size)⟩)
  obtain ⟨q, rfl⟩ : ∃ q : Nat, qi = (q : Int) := ⟨qi.toNat, by omega⟩
  rw [Int.toNat_natCast] at hd1
  obtain ⟨gd0, rfl⟩ := hd1.ptr
  have O1 : Hid (Own wk.heap.size wk w1 (.pointer (some ⟨gd0, 0, none⟩)) q []) := ⟨hd1, hb1, Nat.le_refl _⟩
  clear hd1 hb1 hq1 hq2
  go_wp2_with fail
  refine (few_c w1 (HA.out.to (HBW.out.trans (O1.out.be.mono HBW.out.size))) HL.out).mono ?_
  rintro R w2 ⟨z, rfl, rfl⟩
  cases z
  · go_wp2_with fail
    refine (works_c w1).mono ?_
    rintro R w5 ⟨rfl, hb5⟩
    go_wp2
    go_ret
    exact ⟨rfl, HBW.out.trans ((O1.out.be.trans (hb5.mono O1.out.be.size)).mono HBW.out.size)⟩
  have hlm : l.length < 9223372036854775808 := by have := HL.out; simp only [maxLen] at this; omega
  go_wp2
  go_loopw [8, 7] (fun i d wr => ∃ (k gd : Nat) (E : List Ent), k ≤ l.length ∧ i = .int .i64 k ∧ d = .pointer (some ⟨gd, 0, none⟩) ∧ Hid (Own wk.heap.size wk wr (.pointer (some ⟨gd, 0, none⟩)) q E)) (fun i _ _ => l.length - (intOf i).toNat)
  case atStart => exact ⟨0, gd0, [], Nat.zero_le _, rfl, rfl, O1.out⟩
  case round =>
    clear O1
    obtain ⟨k, gd, E, hk, rfl, rfl, O0⟩ := hrel
    by_cases hlt : k < l.length
    · have i2 : (k : Int) < (l.length : Int) := by omega
      obtain ⟨a, ha, hok, b, o, rfl, L0', C0', C1', C2'⟩ := acs_all HA.out hlt
      have HOK := Lib.hid hok
      have L0 := Lib.hid L0'
      clear ha hok L0' C0' C1' C2'
      have HB0 := Lib.hid (HBW.out.trans (O0.out.be.mono HBW.out.size))
      have l0 := L0.out wr HB0.out
      go_wp2_with fail
      refine (do_c a wr O0.out.dk O0.out.grow (HOK.out.to HB0.out) (fun x hx hn => by have := HOK.out.lo x hx hn; have := HBW.out.size; show ¬ _ ≤ _; omega)).mono ?_
      rintro R w5 ⟨va, rfl, hda, hta⟩
      obtain ⟨ga, rfl⟩ := hda.ptr
      have O5 : Hid (Own wk.heap.size wk w5 (.pointer (some ⟨ga, 0, none⟩)) q (actE a q E)) := ⟨hda, O0.out.be.trans (hta.below (fun x hx => by omega) O0.out.be.size), Nat.le_refl _⟩
      clear hda hta O0 l0 HB0
      go_wp2
      go_round
      case rel => exact ⟨k + 1, ga, _, by omega, by go_num, rfl, O5.out⟩
      case measure => simp [intOf]; omega
    · have hx : k = l.length := by omega
      have HX := Lib.hid hx
      have i2 : ¬ (k : Int) < (l.length : Int) := by omega
      clear hx hlt hk
      have hG := O0.out.dk.good
      have HG := Lib.hid hG
      have HJL := Lib.hid (names_len hG)
      have hE64 : E.length ≤ 64 := hG.len
      clear hG
      go_wp2_with fail
      refine (copy_c wr O0.out.dk).mono ?_
      rintro R w3 ⟨vc, rfl, hdc, hb3⟩
      obtain ⟨gc, rfl⟩ := hdc.ptr
      obtain ⟨N, hN⟩ : ∃ N, wr.heap.size = N := ⟨_, rfl⟩
      have HWN := Lib.hid (show wk.heap.size ≤ N by rw [← hN]; exact O0.out.be.size)
      rw [hN] at hdc
      have HD3 : Hid (DkS (fun x => wk.heap.size ≤ x ∧ x < N) w3 (.pointer (some ⟨gd, 0, none⟩)) q E) := (O0.out.dk.mono (fun x hx hs => ⟨hs, by omega⟩)).new hb3
      have HB3 : Hid (Below wk.heap.size wk w3) := O0.out.be.trans (hb3.mono O0.out.be.size)
      have HW3 := Lib.hid hdc
      have HN3 : Hid (N ≤ w3.heap.size) := by have := hb3.size; show N ≤ _; omega
      clear hN hdc hb3 O0
      have b0 : w3.cell? ⟨w.heap.size, 0, none⟩ = some (.slice k0 n0 c0) := by rw [(HCB.out.below HB3.out HCB.out.lt).cell]; rfl
      have hc4 := crash_s (cap := c0) w3 HD3.out (HI0.out.tu (S := fun _ => False) (.new (HBW.out.trans (HB3.out.mono HBW.out.size))) (fun _ _ h => h)) HS0.out (fun x hx hn => by
        have h1 := HL0.out x hx hn; have h2 := HBW.out.size; have h3 := HB3.out.size
        exact ⟨fun h => by omega, by omega⟩)
      rw [HN0.out] at hc4
      have HC4 := Lib.hid hc4
      clear hc4
      go_wp2_with fail
      refine HC4.out.mono ?_
      rintro R w4 ⟨rfl, hd4, ht4⟩
      obtain ⟨F, hF⟩ : ∃ F, aCrash s0 E = F := ⟨_, rfl⟩
      have HAG := Lib.hid (crash_again HG.out s0 s1)
      have HNM := Lib.hid (crash_nm s0 E)
      have HAT := Lib.hid (fun j hj n hn => crash_at HG.out s0 (j := j) hj (n := n) hn)
      rw [hF] at hd4 HAG HNM HAT
      have HFE := Lib.hid hF
      have HD4 := Lib.hid hd4
      have HW4 := Lib.hid (HW3.out.tu ht4 (fun x _ hx hy => by omega))
      have HB4 := Lib.hid (HB3.out.trans (ht4.below (fun x hx hs => by omega) HB3.out.size))
      have HN4 := Lib.hid (Nat.le_trans HN3.out ht4.size)
      clear hF hd4 ht4 HC4 b0 HD3 HW3 HB3 HN3
      go_wp2_with fail
      refine (list_s w4 HW4.out).mono ?_
      rintro R w5 ⟨u, rfl, hu, hb5⟩
      obtain ⟨uo, uc, rfl⟩ := hu.sl
      rw [List.length_map] at hu ⊢
      have HU5 := Lib.hid hu
      have HD5 := Lib.hid (HD4.out.new hb5)
      have HW5 := Lib.hid (HW4.out.new hb5)
      have HB5 := Lib.hid (HB4.out.trans (hb5.mono HB4.out.size))
      have HN5 := Lib.hid (Nat.le_trans HN4.out hb5.size)
      clear hu hb5 HD4 HW4 HB4
      go_wp2_with fail
      refine (list_s w5 HD5.out).mono ?_
      rintro R w6 ⟨u2, rfl, hu2, hb6⟩
      rw [HNM.out] at hu2
      have HV6 := Lib.hid hu2
      have HU6 := Lib.hid (HU5.out.new hb6)
      have HD6 := Lib.hid (HD5.out.new hb6)
      have HW6 := Lib.hid (HW5.out.new hb6)
      have HB6 := Lib.hid (HB5.out.trans (hb6.mono HB5.out.size))
      have HN6 := Lib.hid (Nat.le_trans HN5.out hb6.size)
      clear hu2 hb6 HU5 HD5 HW5 HB5 HN5
      go_wp2_with fail
      refine (join_c [32] w6 HV6.out HJL.out.1 HJL.out.2).mono ?_
      rintro R w7 ⟨rfl, hb7⟩
      have HU7 := Lib.hid (HU6.out.new hb7)
      have HD7 := Lib.hid (HD6.out.new hb7)
      have HW7 := Lib.hid (HW6.out.new hb7)
      have HB7 := Lib.hid (HB6.out.trans (hb7.mono HB6.out.size))
      have HN7 := Lib.hid (Nat.le_trans HN6.out hb7.size)
      clear hb7 HU6 HD6 HW6 HB6 HN6 HV6
      go_wp2_with fail
      have hj8 := join_c [32] w7 HU7.out HJL.out.1 HJL.out.2
      refine hj8.mono ?_
      rintro R w8 ⟨rfl, hb8⟩
      have HU8 := Lib.hid (HU7.out.new hb8)
      have HD8 := Lib.hid (HD7.out.new hb8)
      have HW8 := Lib.hid (HW7.out.new hb8)
      have HB8 := Lib.hid (HB7.out.trans (hb8.mono HB7.out.size))
      have HN8 := Lib.hid (Nat.le_trans HN7.out hb8.size)
      have qj := str_eqv (Lib.join (E.map Ent.nm) [32])
      clear hb8 hj8 HU7 HD7 HW7 HB7 HN7
      go_wp2
      go_loopw [11] (fun i wr => ∃ j : Nat, j ≤ E.length ∧ i = .int .i64 j ∧ Hid (Below w8.heap.size w8 wr)) (fun i _ => E.length - (intOf i).toNat)
      case atStart => exact ⟨0, Nat.zero_le _, rfl, Below.refl _ _⟩
      case round =>
        obtain ⟨j, hj, rfl, R0⟩ := hrel
        by_cases hjl : j < E.length
        · have j2 : (j : Int) < (E.length : Int) := by omega
          obtain ⟨g, rfl, U0⟩ := HU8.out.nmAt hjl
          have U0 := Lib.hid U0
          obtain ⟨n, hn⟩ : ∃ n, (E[j]'hjl).nm = n := ⟨_, rfl⟩
          have hnl := nm_short HG.out hjl
          rw [hn] at U0 hnl
          have HNL := Lib.hid (show n.length ≤ maxLen from Nat.le_trans hnl (by decide))
          obtain ⟨hp, h1, h2, h3, h4, h5⟩ := HAT.out j hjl n hn
          obtain ⟨ra, hra⟩ : ∃ ra, rd E n = ra := ⟨_, rfl⟩
          obtain ⟨rb, hrb⟩ : ∃ rb, rd F n = rb := ⟨_, rfl⟩
          obtain ⟨sa, hsa⟩ : ∃ sa, sy E n = sa := ⟨_, rfl⟩
          obtain ⟨lb, hlb⟩ : ∃ lb, rb.length = lb := ⟨_, rfl⟩
          rw [hra, hrb] at hp
          rw [hsa, hrb, hlb] at h1
          rw [hrb, hlb] at h2
          have HP := Lib.hid hp
          have H2 := Lib.hid h2
          have HRA := Lib.hid hra
          have HRB := Lib.hid hrb
          have HSA := Lib.hid hsa
          have HLB := Lib.hid hlb
          have H3 := Lib.hid h3
          have H4 := Lib.hid h4
          have sb := str_size rb
          rw [hlb] at sb
          have lb5 : lb ≤ 65536 := by
            have := (List.isPrefixOf_iff_prefix.1 hp).length_le
            rw [hra] at h5
            omega
          clear hn hnl hp h2 h3 h4 h5 hra hrb hsa hlb
          have u0 := U0.out wr R0.out
          go_wp2_with fail
          refine (read_c n wr (HW8.out.new R0.out) HNL.out).mono ?_
          rintro R v1 ⟨rfl, rb1⟩
          rw [HRA.out, H3.out]
          have R1 := Lib.hid (R0.out.trans (rb1.mono R0.out.size))
          clear rb1 u0
          have u0 := U0.out v1 R1.out
          go_wp2_with fail
          refine (read_c n v1 (HD8.out.new R1.out) HNL.out).mono ?_
          rintro R v2 ⟨rfl, rb2⟩
          rw [HRB.out, H4.out]
          have R2 := Lib.hid (R1.out.trans (rb2.mono R1.out.size))
          clear rb2 u0 R1
          have u0 := U0.out v2 R2.out
          go_wp2_with fail
          refine (pref_c ra rb v2).mono ?_
          rintro R v3 ⟨rfl, rfl⟩
          rw [HP.out]
          go_wp2_with fail
          refine (synced_c n v2 (HW8.out.new R2.out) HNL.out).mono ?_
          rintro R v3 ⟨rfl, rb3⟩
          rw [HSA.out]
          have R3 := Lib.hid (R2.out.trans (rb3.mono R2.out.size))
          clear rb3 u0 R2
          have u0 := U0.out v3 R3.out
          go_wp2_with fail
          refine (synced_c n v3 (HD8.out.new R3.out) HNL.out).mono ?_
          rintro R v4 ⟨rfl, rb4⟩
          rw [H2.out]
          have R4 := Lib.hid (R3.out.trans (rb4.mono R3.out.size))
          clear rb4 u0 R3
          go_wp2
          go_round
          case rel => exact ⟨j + 1, by omega, by go_num, R4.out⟩
          case measure => simp [intOf]; omega
        · have hy : j = E.length := by omega
          have HY := Lib.hid hy
          have j2 : ¬ (j : Int) < (E.length : Int) := by omega
          clear hy hj hjl
          have HUr := Lib.hid (HU8.out.new R0.out)
          have HDr := Lib.hid (HD8.out.new R0.out)
          have HBr := Lib.hid (HB8.out.trans (R0.out.mono HB8.out.size))
          have HNr := Lib.hid (Nat.le_trans HN8.out R0.out.size)
          clear HU8 HD8 HW8 HB8 HN8 R0
          go_wp2_with fail
          refine (copy_c wr HDr.out).mono ?_
          rintro R y1 ⟨va, rfl, hda, hy1⟩
          obtain ⟨ga, rfl⟩ := hda.ptr
          obtain ⟨M, hM⟩ : ∃ M, wr.heap.size = M := ⟨_, rfl⟩
          rw [hM] at hda
          have HNM2 := Lib.hid (show N ≤ M by rw [← hM]; exact HNr.out)
          have HM1 : Hid (M ≤ y1.heap.size) := by have := hy1.size; show M ≤ _; omega
          have HWM := Lib.hid (show wk.heap.size ≤ M by rw [← hM]; exact HBr.out.size)
          have HD1 := Lib.hid (HDr.out.new hy1)
          have HB1 := Lib.hid (HBr.out.trans (hy1.mono HBr.out.size))
          have HA1 := Lib.hid hda
          have HU1 : Hid (Lst y1 w4.heap.size (.slice uo E.length uc) (E.map Ent.nm)) := HUr.out.new hy1
          have HUO : Hid (∀ x, Value.ownBlock (.slice uo E.length uc) = some x → x < M) := fun x hx => by have := (HUr.out.lt x hx).2; omega
          clear hM hda hy1 HUr HDr HBr HNr
          have b1 : y1.cell? ⟨w.heap.size, 1, none⟩ = some (.slice k1 n1 c1) := by rw [(HCB.out.below HB1.out HCB.out.lt).cell]; rfl
          have hc2 := crash_s (cap := c1) y1 HA1.out (HI1.out.tu (S := fun _ => False) (.new (HBW.out.trans (HB1.out.mono HBW.out.size))) (fun _ _ h => h)) HS1.out (fun x hx hn => by
            have h1 := HL1.out x hx hn; have h2 := HBW.out.size; have h3 := HB1.out.size; have h4 := HWM.out
            exact ⟨fun h => by omega, by omega⟩)
          rw [HN1.out, HAG.out] at hc2
          have HC2 := Lib.hid hc2
          clear hc2
          go_wp2_with fail
          refine HC2.out.mono ?_
          rintro R y2 ⟨rfl, ha2, ht2⟩
          have HA2 := Lib.hid ha2
          have HD2 := Lib.hid (HD1.out.tu ht2 (fun x _ hx hy => by have := HNM2.out; omega))
          have HU2 : Hid (Lst y2 w4.heap.size (.slice uo E.length uc) (E.map Ent.nm)) := row_tu HU1.out ht2 (fun x hx hs => by have := HUO.out x hx; omega)
          have HB2 := Lib.hid (HB1.out.trans (ht2.below (fun x hx hs => by have := HWM.out; omega) HB1.out.size))
          clear ha2 ht2 HC2 b1 HA1 HD1 HU1 HB1 HM1
          go_wp2
          go_loopw [17] (fun i wr => ∃ j : Nat, j ≤ E.length ∧ i = .int .i64 j ∧ Hid (Below y2.heap.size y2 wr)) (fun i _ => E.length - (intOf i).toNat)
          case atStart => exact ⟨0, Nat.zero_le _, rfl, Below.refl _ _⟩
          case round =>
            obtain ⟨i, hi, rfl, R0⟩ := hrel
            by_cases hil : i < E.length
            · have j3 : (i : Int) < (E.length : Int) := by omega
              obtain ⟨g, rfl, U0⟩ := HU2.out.nmAt hil
              have U0 := Lib.hid U0
              obtain ⟨n, hn⟩ : ∃ n, (E[i]'hil).nm = n := ⟨_, rfl⟩
              have hnl := nm_short HG.out hil
              rw [hn] at U0 hnl
              have HNL := Lib.hid (show n.length ≤ maxLen from Nat.le_trans hnl (by decide))
              obtain ⟨rb, hrb⟩ : ∃ rb, rd F n = rb := ⟨_, rfl⟩
              have HRB := Lib.hid hrb
              have qb := str_eqv rb
              clear hn hnl hrb
              have u0 := U0.out wr R0.out
              go_wp2_with fail
              refine (read_c n wr (HD2.out.new R0.out) HNL.out).mono ?_
              rintro R v1 ⟨rfl, rb1⟩
              rw [HRB.out]
              have R1 := Lib.hid (R0.out.trans (rb1.mono R0.out.size))
              clear rb1 u0 R0
              have u0 := U0.out v1 R1.out
              go_wp2_with fail
              refine (read_c n v1 (HA2.out.new R1.out) HNL.out).mono ?_
              rintro R v2 ⟨rfl, rb2⟩
              rw [HRB.out]
              have R2 := Lib.hid (R1.out.trans (rb2.mono R1.out.size))
              clear rb2 u0 R1
              go_wp2
              go_round
              case rel => exact ⟨i + 1, by omega, by go_num, R2.out⟩
              case measure => simp [intOf]; omega
            · have hy : i = E.length := by omega
              have HY2 := Lib.hid hy
              have j3 : ¬ (i : Int) < (E.length : Int) := by omega
              clear hy hi hil
              go_wp2_with fail
              refine (used_s wr (HA2.out.new R0.out)).mono ?_
              rintro R v1 ⟨rfl, rb1⟩
              have R1 := Lib.hid (R0.out.trans (rb1.mono R0.out.size))
              clear rb1 R0
              go_wp2_with fail
              refine (used_s v1 (HD2.out.new R1.out)).mono ?_
              rintro R v2 ⟨rfl, rb2⟩
              have R2 := Lib.hid (R1.out.trans (rb2.mono R1.out.size))
              clear rb2 R1
              go_wp2_with fail
              refine (works_c v2).mono ?_
              rintro R v3 ⟨rfl, rb3⟩
              have R3 := Lib.hid (R2.out.trans (rb3.mono R2.out.size))
              clear rb3 R2
              go_wp2
              go_ret
              exact ⟨rfl, HBW.out.trans ((HB2.out.trans (R3.out.mono HB2.out.size)).mono HBW.out.size)⟩
end Go.Proofs.Ytecchaogpcpooaa
