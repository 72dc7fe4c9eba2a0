/- NamesBack: what was named is told by its name; unlike things have unlike names; a name of a smaller number comes ahead. -/
import Derived.Test.YtggeakngmlhjpaaNo
import Derived.Sort.Walk0
import Derived.BigQuiet
import Derived.WalkSmall
namespace Go.Proofs.Ytggeakngmlhjpaa
open Go.RowKit
set_option linter.unusedVariables false
set_option linter.unusedSimpArgs false
set_option maxRecDepth 20000

theorem bl_eq (a b : List UInt8) : Op.bytesLess (str a).toList (str b).toList = decide (a < b) := by rw [str_tl, str_tl, bytesLess_eq]
theorem cons_less (c : UInt8) (a b : List UInt8) : (c :: a < c :: b) ↔ a < b := by
  constructor
  · intro h
    rcases List.cons_lt_cons_iff.1 h with h | ⟨_, h⟩
    · exact absurd h (UInt8.lt_irrefl c)
    · exact h
  · exact fun h => List.cons_lt_cons_iff.2 (.inr ⟨rfl, h⟩)
theorem bl_hex (c : UInt8) {a b : Nat} (ha : a < 18446744073709551616) (hb : b < 18446744073709551616) : Op.bytesLess (str (c :: hex a)).toList (str (c :: hex b)).toList = decide (a < b) := by
  rw [bl_eq]
  exact decide_eq_decide.2 ((cons_less c _ _).trans (hex_less ha hb))
/-- All the names that the law asks for. -/
def six (a : Nat) : List (List UInt8) := [115 :: hex a, 115 :: hex a ++ nw, 99 :: hex a, 99 :: hex a ++ nw, mani, mani ++ nw]
theorem six_prs {a : Nat} (h : a < 18446744073709551616) : (six a).map prs = [(1, a, false, true), (1, a, true, true), (2, a, false, true), (2, a, true, true), (3, 0, false, true), (3, 0, true, true)] := by
  unfold six
  simp only [List.map_cons, List.map_nil]
  rw [prs_seg h, prs_segn h, prs_chk h, prs_chkn h, prs_manin, prs_old (s := mani) (k := 3) (n := 0) (by decide) lst_mani]
theorem six_apart {a : Nat} (h : a < 18446744073709551616) {i k : Nat} (hi : i < (six a).length) (hk : k < i) : (six a)[i]'hi ≠ (six a)[k]'(by omega) := by
  have hn : ((six a).map prs).Nodup := by rw [six_prs h]; simp
  intro e
  have h1 := List.pairwise_iff_getElem.1 hn k i (by rw [List.length_map]; omega) (by rw [List.length_map]; exact hi) hk
  apply h1
  rw [List.getElem_map, List.getElem_map, e]
theorem six_len {a : Nat} {x : List UInt8} (hx : x ∈ six a) : x.length ≤ 21 := by
  have h := hex_len a
  unfold six at hx
  simp only [List.mem_cons, List.not_mem_nil, or_false] at hx
  rcases hx with rfl | rfl | rfl | rfl | rfl | rfl <;> simp [nw, mani, h]
/-- The row of the names, as values. -/
def sixV (a : Nat) : Array Value := ((six a).map fun x => Value.string (str x)).toArray
theorem sixV_at (a i : Nat) (h : i < (six a).length) : (sixV a)[i]? = some (.string (str ((six a)[i]'h))) := by
  unfold sixV
  rw [List.getElem?_toArray, List.getElem?_map, List.getElem?_eq_getElem h]
  rfl
theorem law_back (a b : Nat) (w : World) (ha : a < 18446744073709551616) (hb : b < 18446744073709551616) :
    Calls Try.prog 5 #[.int .u64 (a : Int), .int .u64 (b : Int)] w fun e w' => e = .returned (.bool true) ∧ Below w.heap.size w w' := by
  have HW := Lib.hid works_c
  have HS := Lib.hid (fun w => seg_c a w ha)
  have HC := Lib.hid (fun w => chk_c b w hb)
  have HA := Lib.hid (fun w => chk_c a w ha)
  have HT := Lib.hid (fun w => seg_c b w hb)
  have i1 := Lib.hid (fun w => is_yes w (by rw [List.length_cons, hex_len]; decide) (prs_seg ha))
  have i2 := Lib.hid (fun w => is_yes w (by rw [List.length_append, List.length_cons, hex_len]; decide) (prs_segn ha))
  have i3 := Lib.hid (fun w => is_yes w (by rw [List.length_cons, hex_len]; decide) (prs_chk hb))
  have i4 := Lib.hid (fun w => is_yes w (by rw [List.length_append, List.length_cons, hex_len]; decide) (prs_chkn hb))
  have i5 := Lib.hid (fun w => is_yes w (by decide) prs_manin)
  have n1 := Lib.hid (fun w => new_c (115 :: hex a) w (by rw [List.length_cons, hex_len]; decide))
  have n2 := Lib.hid (fun w => new_c (99 :: hex b) w (by rw [List.length_cons, hex_len]; decide))
  have n3 := Lib.hid (fun w => new_c mani w (by decide))
  have n4 := Lib.hid (fun w => new_c (99 :: hex a) w (by rw [List.length_cons, hex_len]; decide))
  have HL : Hid (sixV a = #[.string (str (115 :: hex a)), .string (str (115 :: hex a ++ nw)), .string (str (99 :: hex a)), .string (str (99 :: hex a ++ nw)), .string (str mani), .string (str (mani ++ nw))]) := rfl
  have HE1 : Hid (str (115 :: hex a) = str (115 :: hex b) → a = b) := fun e => hex_inj ha hb (List.cons.inj (str_inj e)).2
  have HE2 := Lib.hid (bl_hex 115 ha hb)
  have HE3 := Lib.hid (bl_hex 99 ha hb)
  obtain ⟨s0, h0⟩ : ∃ s, s = str (115 :: hex a) := ⟨_, rfl⟩
  obtain ⟨s1, h1⟩ : ∃ s, s = str (115 :: hex a ++ nw) := ⟨_, rfl⟩
  obtain ⟨s2, h2⟩ : ∃ s, s = str (99 :: hex a) := ⟨_, rfl⟩
  obtain ⟨s3, h3⟩ : ∃ s, s = str (99 :: hex a ++ nw) := ⟨_, rfl⟩
  obtain ⟨s5, h5⟩ : ∃ s, s = str (mani ++ nw) := ⟨_, rfl⟩
  obtain ⟨t0, k0⟩ : ∃ s, s = str (115 :: hex b) := ⟨_, rfl⟩
  obtain ⟨t2, k2⟩ : ∃ s, s = str (99 :: hex b) := ⟨_, rfl⟩
  obtain ⟨t3, k3⟩ : ∃ s, s = str (99 :: hex b ++ nw) := ⟨_, rfl⟩
  rw [← k0] at HE1 HE2 HT
  rw [← k2] at HC i3 n2 HE3
  rw [← k3] at n2 i4
  rw [← h0] at HS i1 n1 HE1 HE2 HL
  rw [← h1] at n1 i2 HL
  rw [← h2] at HA n4 HE3 HL
  rw [← h3] at n4 HL
  rw [← h5] at n3 i5 HL
  rw [show str mani = ⟨#[109, 97, 110, 105, 102, 101, 115, 116]⟩ from rfl] at n3 HL
  have HX0 : Hid (a = b → s0 = t0) := fun e => by rw [h0, k0, e]
  clear h0 h1 h2 h3 h5 k0 k2 k3
  go_enter Try.func5, Try.ntmps5
  go_wp2_with fail
  refine (HS.out _).mono ?_
  rintro E w1 ⟨rfl, hb1⟩
  have HB1 := Lib.hid (hb1)
  clear hb1
  go_wp2_with fail
  refine (i1.out _).mono ?_
  rintro E w2 ⟨rfl, rfl⟩
  go_wp2_with fail
  refine (HS.out _).mono ?_
  rintro E w3 ⟨rfl, hb3⟩
  have HB3 := Lib.hid (HB1.out.trans (hb3.mono HB1.out.size))
  clear hb3
  go_wp2_with fail
  refine (n1.out _).mono ?_
  rintro E w4 ⟨rfl, rfl⟩
  go_wp2_with fail
  refine (i2.out _).mono ?_
  rintro E w5 ⟨rfl, rfl⟩
  go_wp2_with fail
  refine (HC.out _).mono ?_
  rintro E w6 ⟨rfl, hb6⟩
  have HB6 := Lib.hid (HB3.out.trans (hb6.mono HB3.out.size))
  clear hb6
  go_wp2_with fail
  refine (i3.out _).mono ?_
  rintro E w7 ⟨rfl, rfl⟩
  go_wp2_with fail
  refine (HC.out _).mono ?_
  rintro E w8 ⟨rfl, hb8⟩
  have HB8 := Lib.hid (HB6.out.trans (hb8.mono HB6.out.size))
  clear hb8
  go_wp2_with fail
  refine (n2.out _).mono ?_
  rintro E w9 ⟨rfl, rfl⟩
  go_wp2_with fail
  refine (i4.out _).mono ?_
  rintro E w10 ⟨rfl, rfl⟩
  go_wp2_with fail
  refine (n3.out _).mono ?_
  rintro E w11 ⟨rfl, rfl⟩
  go_wp2_with fail
  refine (i5.out _).mono ?_
  rintro E w12 ⟨rfl, rfl⟩
  go_wp2_with fail
  refine (HS.out _).mono ?_
  rintro E w13 ⟨rfl, hb13⟩
  have HB13 := Lib.hid (HB8.out.trans (hb13.mono HB8.out.size))
  clear hb13
  go_wp2_with fail
  refine (HS.out _).mono ?_
  rintro E w14 ⟨rfl, hb14⟩
  have HB14 := Lib.hid (HB13.out.trans (hb14.mono HB13.out.size))
  clear hb14
  go_wp2_with fail
  refine (n1.out _).mono ?_
  rintro E w15 ⟨rfl, rfl⟩
  go_wp2_with fail
  refine (HA.out _).mono ?_
  rintro E w16 ⟨rfl, hb16⟩
  have HB16 := Lib.hid (HB14.out.trans (hb16.mono HB14.out.size))
  clear hb16
  go_wp2_with fail
  refine (HA.out _).mono ?_
  rintro E w17 ⟨rfl, hb17⟩
  have HB17 := Lib.hid (HB16.out.trans (hb17.mono HB16.out.size))
  clear hb17
  go_wp2_with fail
  refine (n4.out _).mono ?_
  rintro E w18 ⟨rfl, rfl⟩
  go_wp2_with fail
  refine (n3.out _).mono ?_
  rintro E w17 ⟨rfl, rfl⟩
  have HCC : Hid (Cells (w17.alloc (.cells (sixV a) 9)) w17.heap.size 9 (sixV a)) := Cells.made w17 9 (sixV a)
  have HBB := Lib.hid (HB17.out.alloc HB17.out.size (.cells (sixV a) 9))
  rw [HL.out] at HBB
  go_wp2_with fail
  go_loopw [6] (fun i wr => ∃ k : Nat, k ≤ 6 ∧ i = .int .i64 (k : Int) ∧ Cells wr w17.heap.size 9 (sixV a) ∧ Below w.heap.size w wr) (fun i _ => 6 - (intOf i).toNat)
  case atStart => exact ⟨0, Nat.zero_le _, rfl, by have := HCC.out; rw [HL.out] at this ⊢; exact this, HBB.out⟩
  case round =>
    obtain ⟨i, hi, rfl, hc, hbw⟩ := hrel
    have HBW := Lib.hid hbw
    have HCI := Lib.hid hc
    clear hbw hc
    have h6 : (six a).length = 6 := rfl
    by_cases hlt : i < 6
    · obtain ⟨si, hsi⟩ : ∃ s, s = str ((six a)[i]'(by omega)) := ⟨_, rfl⟩
      have HSI : Hid (si.size ≤ 21) := by show _ ≤ _; rw [hsi, str_size]; exact six_len (List.getElem_mem _)
      have HVI : Hid ((sixV a)[i]? = some (.string si)) := by show _ = _; rw [hsi]; exact sixV_at a i (by omega)
      have HAP : Hid (∀ k, (hk : k < i) → ∃ sk, (sixV a)[k]? = some (.string sk) ∧ (si.toList == sk.toList) = false) := fun k hk =>
        ⟨_, sixV_at a k (by omega), by rw [hsi, str_tl, str_tl]; exact beq_eq_false_iff_ne.2 (six_apart ha (by omega) hk)⟩
      clear hsi h6
      go_wp2_with fail
      go_loopw [7] (fun j wr => ∃ k : Nat, k ≤ i ∧ j = .int .i64 (k : Int) ∧ Cells wr w17.heap.size 9 (sixV a) ∧ Below w.heap.size w wr) (fun j _ => i - (intOf j).toNat)
      case atStart => exact ⟨0, Nat.zero_le _, rfl, HCI.out, HBW.out⟩
      case round =>
        clear HCI HBW
        obtain ⟨k, hk, rfl, hc, hbw⟩ := hrel
        have HBW := Lib.hid hbw
        have HCI := Lib.hid hc
        have ci := (hc.cell i).trans HVI.out
        clear hbw
        by_cases hlk : k < i
        · obtain ⟨sk, e1, e2⟩ := HAP.out k hlk
          have ck := (hc.cell k).trans e1
          clear hc e1
          go_wp2_with fail
          go_quiet (fail)
          go_wp2_with fail
          go_roundw
          case rel => exact ⟨k + 1, by omega, by go_num, HCI.out.below (below_drewN (Below.refl _ _) _) HCI.out.lt, below_drewN HBW.out _⟩
          case measure => simp [intOf]; omega
        · obtain rfl : k = i := by omega
          have hs21 := HSI.out
          clear hc
          go_wp2_with fail
          go_roundw
          case rel => exact ⟨k + 1, by omega, by go_num, HCI.out, HBW.out⟩
          case measure => simp [intOf]; omega
    · obtain rfl : i = 6 := by omega
      clear h6 HCI
      have x2 := HE2.out
      have x3 := HE3.out
      rcases Nat.lt_trichotomy a b with hlt2 | rfl | hgt
      · rw [decide_eq_true hlt2] at x2 x3
        have ne : ¬ a = b := by omega
        have xe : (s0.toList == t0.toList) = false := beq_eq_false_iff_ne.2 fun e => ne (HE1.out (by rw [ByteArray.toList_eq, ByteArray.toList_eq] at e; exact ByteArray.ext (Array.toList_inj.1 e)))
        have xa : ((a : Int) == (b : Int)) = false := beq_eq_false_iff_ne.2 (by omega)
        have xl : ((a : Int) < (b : Int)) := by omega
        have xd : decide ((a : Int) < (b : Int)) = true := by simpa using hlt2
        clear ne
        go_wp2_with fail
        refine (HS.out _).mono ?_
        rintro E w101 ⟨rfl, hb101⟩
        have HB101 := Lib.hid (HBW.out.trans (hb101.mono HBW.out.size))
        clear hb101
        go_wp2_with fail
        refine (HT.out _).mono ?_
        rintro E w102 ⟨rfl, hb102⟩
        have HB102 := Lib.hid (HB101.out.trans (hb102.mono HB101.out.size))
        clear hb102
        go_wp2_with fail
        refine (HA.out _).mono ?_
        rintro E w103 ⟨rfl, hb103⟩
        have HB103 := Lib.hid (HB102.out.trans (hb103.mono HB102.out.size))
        clear hb103
        go_wp2_with fail
        refine (HC.out _).mono ?_
        rintro E w104 ⟨rfl, hb104⟩
        have HB104 := Lib.hid (HB103.out.trans (hb104.mono HB103.out.size))
        clear hb104
        go_wp2_with fail
        refine (HS.out _).mono ?_
        rintro E w105 ⟨rfl, hb105⟩
        have HB105 := Lib.hid (HB104.out.trans (hb105.mono HB104.out.size))
        clear hb105
        go_wp2_with fail
        refine (HT.out _).mono ?_
        rintro E w106 ⟨rfl, hb106⟩
        have HB106 := Lib.hid (HB105.out.trans (hb106.mono HB105.out.size))
        clear hb106
        go_wp2_with fail
        refine (HW.out _).mono ?_
        rintro E w107 ⟨rfl, hb107⟩
        have HB107 := Lib.hid (HB106.out.trans (hb107.mono HB106.out.size))
        clear hb107
        go_wp2_with fail
        go_ret
        exact ⟨rfl, HB107.out⟩
      · rw [decide_eq_false (Nat.lt_irrefl a)] at x2 x3
        have xn : decide (a < a) = false := by simp
        have xt : (s0.toList == t0.toList) = true := by rw [HX0.out rfl]; exact beq_self_eq_true _
        go_wp2_with fail
        refine (HS.out _).mono ?_
        rintro E w101 ⟨rfl, hb101⟩
        have HB101 := Lib.hid (HBW.out.trans (hb101.mono HBW.out.size))
        clear hb101
        go_wp2_with fail
        refine (HT.out _).mono ?_
        rintro E w102 ⟨rfl, hb102⟩
        have HB102 := Lib.hid (HB101.out.trans (hb102.mono HB101.out.size))
        clear hb102
        go_wp2_with fail
        refine (HA.out _).mono ?_
        rintro E w103 ⟨rfl, hb103⟩
        have HB103 := Lib.hid (HB102.out.trans (hb103.mono HB102.out.size))
        clear hb103
        go_wp2_with fail
        refine (HC.out _).mono ?_
        rintro E w104 ⟨rfl, hb104⟩
        have HB104 := Lib.hid (HB103.out.trans (hb104.mono HB103.out.size))
        clear hb104
        go_wp2_with fail
        refine (HS.out _).mono ?_
        rintro E w105 ⟨rfl, hb105⟩
        have HB105 := Lib.hid (HB104.out.trans (hb105.mono HB104.out.size))
        clear hb105
        go_wp2_with fail
        refine (HT.out _).mono ?_
        rintro E w106 ⟨rfl, hb106⟩
        have HB106 := Lib.hid (HB105.out.trans (hb106.mono HB105.out.size))
        clear hb106
        go_wp2_with fail
        refine (HW.out _).mono ?_
        rintro E w107 ⟨rfl, hb107⟩
        have HB107 := Lib.hid (HB106.out.trans (hb107.mono HB106.out.size))
        clear hb107
        go_wp2_with fail
        go_ret
        exact ⟨rfl, HB107.out⟩
      · rw [decide_eq_false (by omega)] at x2 x3
        have ne : ¬ a = b := by omega
        have xe : (s0.toList == t0.toList) = false := beq_eq_false_iff_ne.2 fun e => ne (HE1.out (by rw [ByteArray.toList_eq, ByteArray.toList_eq] at e; exact ByteArray.ext (Array.toList_inj.1 e)))
        have xa : ((a : Int) == (b : Int)) = false := beq_eq_false_iff_ne.2 (by omega)
        have xl : ¬ ((a : Int) < (b : Int)) := by omega
        have xd : decide ((a : Int) < (b : Int)) = false := by simp; omega
        have xn : decide (a < b) = false := by simp; omega
        have xm : ¬ a < b := by omega
        clear ne hgt
        go_wp2_with fail
        refine (HS.out _).mono ?_
        rintro E w101 ⟨rfl, hb101⟩
        have HB101 := Lib.hid (HBW.out.trans (hb101.mono HBW.out.size))
        clear hb101
        go_wp2_with fail
        refine (HT.out _).mono ?_
        rintro E w102 ⟨rfl, hb102⟩
        have HB102 := Lib.hid (HB101.out.trans (hb102.mono HB101.out.size))
        clear hb102
        go_wp2_with fail
        refine (HA.out _).mono ?_
        rintro E w103 ⟨rfl, hb103⟩
        have HB103 := Lib.hid (HB102.out.trans (hb103.mono HB102.out.size))
        clear hb103
        go_wp2_with fail
        refine (HC.out _).mono ?_
        rintro E w104 ⟨rfl, hb104⟩
        have HB104 := Lib.hid (HB103.out.trans (hb104.mono HB103.out.size))
        clear hb104
        go_wp2_with fail
        refine (HS.out _).mono ?_
        rintro E w105 ⟨rfl, hb105⟩
        have HB105 := Lib.hid (HB104.out.trans (hb105.mono HB104.out.size))
        clear hb105
        go_wp2_with fail
        refine (HT.out _).mono ?_
        rintro E w106 ⟨rfl, hb106⟩
        have HB106 := Lib.hid (HB105.out.trans (hb106.mono HB105.out.size))
        clear hb106
        go_wp2_with fail
        refine (HW.out _).mono ?_
        rintro E w107 ⟨rfl, hb107⟩
        have HB107 := Lib.hid (HB106.out.trans (hb107.mono HB106.out.size))
        clear hb107
        go_wp2_with fail
        go_ret
        exact ⟨rfl, HB107.out⟩
theorem rowBack (a b : Int) (W : World) (ha : (Lit.int .u64 a).wf = true) (hb : (Lit.int .u64 b).wf = true) :
    Calls Try.prog 5 #[.int .u64 a, .int .u64 b] W fun e w' => e = .returned (.bool true) ∧ Below W.heap.size W w' := by
  obtain ⟨n, rfl, hn⟩ := u64_nat ha
  obtain ⟨f, rfl, hf⟩ := u64_nat hb
  exact law_back n f W hn hf
end Go.Proofs.Ytggeakngmlhjpaa
