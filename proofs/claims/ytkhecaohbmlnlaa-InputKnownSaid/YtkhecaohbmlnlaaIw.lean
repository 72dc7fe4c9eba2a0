/- Unpack, whole; the program's: one contract. Conditions: texts of at most 2^40 bytes. -/
import Derived.Test.YtkhecaohbmlnlaaIu
import Derived.Deep.DeepCutAuto
import Derived.Deep.LoopGhost
namespace Go.Proofs.Ytkhecaohbmlnlaa
open Go.RowKit
set_option linter.unusedVariables false

theorem below_on' {w w1 w2 : World} {B : Nat} {r : Option Nat} (hb : Below B w w1) (hg : w1.grownBy w2 r) (hr : ∀ k, r = some k → B ≤ k) (hB : B ≤ w1.heap.size) : Below B w w2 := hb.grown hg hB hr
/-- Where Unpack stands ahead of a run. -/
def UnAt (w : World) (s : List UInt8) (M k : Nat) (s8 s28 : Value) (wr : World) : Prop :=
  ∃ (j : Nat) (acc l : List UInt8) (ao : Option Addr) (cap : Nat), j + k = (vd 0 s).val ∧ s28 = .int .u64 j ∧ s8 = .slice ao acc.length cap ∧ acc.length ≤ M ∧ Own wr (w.heap.size + 1) (.slice ao acc.length cap) acc ∧
    Rd wr w.heap.size l 0 ∧ ur M (vd 0 s).val [] (vd 0 s).rest = ur M k acc l ∧ Below w.heap.size w wr
theorem mo_lo {m : Int} (h : m < 0) : ((mo m : Nat) : Int) = 0 := by unfold mo; omega
theorem mo_hi {m : Int} (h : 4096 < m) : ((mo m : Nat) : Int) = 4096 := by unfold mo; omega
theorem mo_in {m : Int} (h : 0 ≤ m) (h2 : m ≤ 4096) : ((mo m : Nat) : Int) = m := by unfold mo; omega
/-- What Unpack leaves. -/
def UnTo (w : World) (M : Nat) (s : List UInt8) (E : Ending) (w' : World) : Prop :=
  ∃ ao cap, E = .returned (.tuple #[.slice ao (upL M s).length cap, .int .i64 (upE M s)]) ∧ Own w' w.heap.size (.slice ao (upL M s).length cap) (upL M s) ∧ Below w.heap.size w w'
theorem unTo_bad {w w' : World} {M : Nat} {s : List UInt8} {c : Int} (h : upE M s = c) (hc : c ≠ 0) (hb : Below w.heap.size w w') : UnTo w M s (.returned (.tuple #[.slice none 0 0, .int .i64 c])) w' := by
  have h1 := upL_bad M s (by rw [h]; exact hc)
  refine ⟨none, 0, by rw [h1, h]; rfl, ?_, hb⟩
  rw [h1]
  exact World.ownsRow_nil _ _ _ _
theorem own_lower {w : World} {B : Nat} {v : Value} {l : List UInt8} (h : Own w (B + 1) v l) : Own w B v l := by
  refine ⟨h.1, ?_⟩
  rcases h.2 with h0 | ⟨g, cap, cur, h1, h2, h3⟩
  · exact .inl h0
  · exact .inr ⟨g, cap, cur, h1, by omega, h3⟩
theorem str_empty (l : List UInt8) : (str l).toList.isEmpty = l.isEmpty := by rw [ByteArray.toList_eq, str_data]
set_option maxHeartbeats 4000000 in
set_option maxRecDepth 20000 in
theorem unpack_c (s : List UInt8) (m : Int) (w : World) (hs : s.length ≤ 1099511627776) (hm1 : -9223372036854775808 ≤ m) (hm2 : m < 9223372036854775808) :
    Calls Try.prog 24 #[.string (str s), .int .i64 m] w (UnTo w (mo m) s) := by
  have hML := mo_le m
  go_enter Try.func24, Try.ntmps24
  go_upto_region 1 with fail
  go_cut [1] (fun s1 wx => s1 = .int .i64 (mo m : Nat) ∧ w = wx)
  case first =>
    go_wp2_with fail
    all_goals go_meet
    all_goals exact ⟨by first | rw [mo_lo (by omega)] | rw [mo_hi (by omega)] | rw [mo_in (by omega) (by omega)], rfl⟩
  case rest =>
  obtain ⟨rfl, rfl⟩ := hcut
  generalize mo m = M at *
  clear hm1 hm2
  have HU : Hid (upE M s = if (vd 0 s).err ≠ 0 then (vd 0 s).err else if M < (vd 0 s).val then 3 else if (ur M (vd 0 s).val [] (vd 0 s).rest).err ≠ 0 then (ur M (vd 0 s).val [] (vd 0 s).rest).err else if (ur M (vd 0 s).val [] (vd 0 s).rest).rest ≠ [] then 4 else 0) := rfl
  have HV : Hid (upE M s = 0 → upL M s = (ur M (vd 0 s).val [] (vd 0 s).rest).val) := fun h => by unfold upL; rw [if_pos h]
  go_wp2_with fail
  refine (rdNew s _ hs).mono ?_
  rintro E w1 ⟨rfl, hr1, hg1, hs1⟩
  go_wp2_with fail
  refine (rdVar _ s 0 _ hr1).mono ?_
  rintro E w2 ⟨rfl, hr2⟩
  rw [fin_of] at hr2
  have hb2 : Below w.heap.size w w2 := below_on' (below_of_grown hg1) hr2.2 (fun k e => by cases e; exact Nat.le_refl _) (by omega)
  have hsz2 : w.heap.size + 1 ≤ w2.heap.size := by have := hr2.2.size; omega
  have HB2 := Lib.hid hb2
  have HR2 := Lib.hid hr2.1
  have hre := hr2.1
  clear hr1 hg1 hs1 hr2 hb2
  go_wp2_with fail
  refine (rdErr _ _ _ _ hre).mono ?_
  rintro E w3 ⟨rfl, rfl⟩
  by_cases he : (vd 0 s).err = 0
  · rw [he]
    have hR0 := HR2.out
    rw [he] at hR0
    have HR0 := Lib.hid hR0
    have hu := HU.out
    rw [if_neg (by rw [he]; simp)] at hu
    have HU1 := Lib.hid hu
    clear hre HR2 hR0 hu HU
    have hvl := vd_val_lt s
    have hu1 := u64_id (M : Int) (by omega) (by omega)
    have HUR : Hid (ur M (vd 0 s).val [] (vd 0 s).rest = ur M (vd 0 s).val [] (vd 0 s).rest) := rfl
    by_cases hM : M < (vd 0 s).val
    · have HE : Hid (upE M s = 3) := by show _ = _; rw [HU1.out, if_pos hM]
      clear HU1
      go_wp2
      go_ret2
      exact unTo_bad HE.out (by decide) HB2.out
    · rw [if_neg hM] at HU1
      go_wp2
      clear hu1
      go_loopg [8, 28] ((vd 0 s).val) (fun k s8 s28 wr => UnAt w s M k s8 s28 wr)
      case atStart => exact ⟨0, [], (vd 0 s).rest, none, 0, by omega, rfl, rfl, Nat.zero_le _, World.ownsRow_nil _ _ _ _, HR0.out, rfl, HB2.out⟩
      case round =>
        obtain ⟨j, acc, l, ao, cap, hjk, rfl, rfl, hacc, hown, hrd, hT, hb⟩ := hrel
        have HT := Lib.hid hT
        have HB := Lib.hid hb
        have hsz := hrd.1.lt
        clear hT hb HR0 HB2
        cases gk with
        | zero =>
          have hj : j = (vd 0 s).val := by omega
          rw [← hj]
          have HT2 : Hid (ur M (vd 0 s).val [] (vd 0 s).rest = ⟨0, acc, l⟩) := HT.out
          have hu := HU1.out
          rw [HT2.out, if_neg (by simp)] at hu
          have HU2 := Lib.hid hu
          have HV2 : Hid (upE M s = 0 → upL M s = acc) := fun h => by rw [HV.out h, HT2.out]
          have HO := Lib.hid hown
          clear hu HU1 HV HT HT2 hown hj hjk hM hvl
          go_wp2_with fail
          refine (rdRest _ _ _ _ hrd).mono ?_
          rintro E w3 ⟨rfl, rfl⟩
          cases l with
          | nil =>
            have HE : Hid (upE M s = 0) := by show _ = _; rw [HU2.out]; simp
            have hne : (str []).toList.isEmpty = true := by rw [str_empty]; rfl
            go_wp2
            go_ret2
            refine ⟨ao, cap, ?_, ?_, HB.out⟩
            · rw [HE.out, HV2.out HE.out]; rfl
            · rw [HV2.out HE.out]
              exact own_lower HO.out
          | cons b t =>
            have HE : Hid (upE M s = 4) := by show _ = _; rw [HU2.out]; simp
            have hne : (str (b :: t)).toList.isEmpty = false := by rw [str_empty]; rfl
            go_wp2
            go_ret2
            exact unTo_bad HE.out (by decide) HB.out
        | succ k =>
          have hjlt : j < (vd 0 s).val := by omega
          have htk := takeRun_c w.heap.size M ao cap l acc wr hrd hown hacc hML
          go_wp2_with fail
          refine htk.mono ?_
          rintro E w3 ⟨v, rfl, hb3, hok⟩
          have HOK := Lib.hid hok
          have HB3 := Lib.hid (HB.out.trans hb3)
          clear hok hb3 htk hown hrd
          by_cases hz : rbad acc.getLast? (M - acc.length) l = 0
          · rw [hz]
            obtain ⟨k1, k2, k3⟩ := HOK.out hz
            have HT3 : Hid (ur M (vd 0 s).val [] (vd 0 s).rest = ur M k (rnew acc l) (rrst l)) := by
              show _ = _
              rw [HT.out, ur, if_pos hz]
            have HK := Lib.hid (And.intro k1 (And.intro k2 k3))
            clear HT HOK hz k1 k2 k3
            go_wp2
            go_roundg k
            case measure => omega
            case rel =>
              obtain ⟨k1, k2, k3⟩ := HK.out
              obtain ⟨ao', cap', rfl⟩ := row_shape k2
              refine ⟨j + 1, rnew acc l, rrst l, ao', cap', by omega, ?_, rfl, k3, k2, k1, HT3.out, HB3.out⟩
              have hs := u64_id ((j : Int) + 1) (by omega) (by omega)
              first | rfl | (simp; done) | (rw [hs]; rfl)
          · have hz' : (rbad acc.getLast? (M - acc.length) l == 0) = false := beq_eq_false_iff_ne.2 hz
            have HE : Hid (upE M s = rbad acc.getLast? (M - acc.length) l ∧ rbad acc.getLast? (M - acc.length) l ≠ 0) := by
              refine ⟨?_, hz⟩
              rw [HU1.out, HT.out, ur, if_neg hz]
              simp [hz]
            clear HT HOK hz HU1 HV
            generalize rbad acc.getLast? (M - acc.length) l = e at *
            go_wp2
            go_ret2
            exact unTo_bad HE.out.1 HE.out.2 HB3.out
  · have hb0 : ((vd 0 s).err == 0) = false := beq_eq_false_iff_ne.2 he
    have HE : Hid (upE M s = (vd 0 s).err ∧ (vd 0 s).err ≠ 0) := ⟨by rw [HU.out, if_pos he], he⟩
    clear he HU
    go_wp2_with fail
    refine (rdErr _ _ _ _ hre).mono ?_
    rintro E w3 ⟨rfl, rfl⟩
    go_wp2
    go_ret2
    exact unTo_bad HE.out.1 HE.out.2 HB2.out
end Go.Proofs.Ytkhecaohbmlnlaa
