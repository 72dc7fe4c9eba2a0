/- The document's Unpack: one contract. Conditions: texts of at most 2^40 bytes. -/
import Derived.Test.YtkhecaohbmlnlaaIw
import Derived.Test.YtkhecaohbmlnlaaRfD
import Derived.BigQuiet
namespace Go.Proofs.Ytkhecaohbmlnlaa
open Go.RowKit
set_option linter.unusedVariables false

theorem rf_lt {w : World} {g : Nat} {l : List UInt8} {e : Int} (h : Rf w g l e) : g < w.heap.size := by obtain ⟨_, _, hc, _⟩ := h; exact hc.1.lt
theorem rf_below {w w' : World} {g : Nat} {l : List UInt8} {e : Int} (h : Rf w g l e) (hb : Below (g + 1) w w') : Rf w' g l e := by
  obtain ⟨S, p, hc, h1⟩ := h
  exact ⟨S, p, ⟨hc.1.below hb (by omega), hc.2⟩, h1⟩
theorem last_cell {w : World} {B cap : Nat} {ao : Option Addr} {l : List UInt8} (h : Own w B (.slice ao l.length cap) l) (h0 : 0 < l.length) :
    ∃ b o, ao = some ⟨b, o, none⟩ ∧ w.cell? ⟨b, o + (l.length - 1), none⟩ = some (.int .u8 (lastV l)) ∧ lastB l = true := by
  obtain ⟨b, o, e, hc⟩ := ins_own h (l.length - 1) (by omega)
  have hla := last_at l (l.length - 1) (by omega) (by omega)
  have hv : lastV l = (l[l.length - 1]'(by omega)).toNat := by unfold lastV; rw [hla]
  exact ⟨b, o, e, by rw [hv]; exact hc, by unfold lastB; rw [hla]⟩
theorem ur_bad {M k : Nat} {acc l : List UInt8} {c : Int} (h : rbad acc.getLast? (M - acc.length) l = c) (hc : c ≠ 0) : ur M (k + 1) acc l = ⟨c, [], []⟩ := by
  subst h; rw [ur, if_neg hc]
/-- Where the document's appending loop stands. -/
def PushR (w : World) (g : Nat) (acc : List UInt8) (n b : Nat) (s8 s12 : Value) (wr : World) : Prop :=
  ∃ j : Nat, j ≤ n ∧ s12 = .int .i64 j ∧ ∃ ao cap, s8 = .slice ao (acc ++ List.replicate j (UInt8.ofNat b)).length cap ∧ Own wr (g + 1) s8 (acc ++ List.replicate j (UInt8.ofNat b)) ∧ Below (g + 1) w wr
/-- Where the document's Unpack stands ahead of a run. -/
def UnAtR (w : World) (s : List UInt8) (M k : Nat) (s8 s9 : Value) (wr : World) : Prop :=
  ∃ (j : Nat) (acc l : List UInt8) (ao : Option Addr) (cap : Nat), j + k = (vd 0 s).val ∧ s9 = .int .i64 j ∧ s8 = .slice ao acc.length cap ∧ acc.length ≤ M ∧ (j = 0 ↔ acc = []) ∧ Own wr (w.heap.size + 1) (.slice ao acc.length cap) acc ∧
    Rf wr w.heap.size l 0 ∧ ur M (vd 0 s).val [] (vd 0 s).rest = ur M k acc l ∧ Below w.heap.size w wr
theorem rf_new (w : World) (s : List UInt8) (hs : s.length ≤ 1099511627776) : Rf (w.alloc (.cells #[.string (str s), .int .i64 0, .int .i64 0] 66)) w.heap.size s 0 :=
  ⟨s, 0, ⟨Cells.made _ _ _, by omega, hs⟩, fun _ => rfl, fun h => absurd rfl h⟩
set_option maxHeartbeats 4000000 in
set_option maxRecDepth 20000 in
theorem refUnpack (s : List UInt8) (m : Int) (w : World) (hs : s.length ≤ 1099511627776) (hm1 : -9223372036854775808 ≤ m) (hm2 : m < 9223372036854775808) :
    Calls Try.prog 25 #[.string (str s), .int .i64 m] w (UnTo w (mo m) s) := by
  have hML := mo_le m
  obtain ⟨q, hq⟩ : ∃ q : Int, q = max m 0 := ⟨_, rfl⟩
  have hq0 : 0 ≤ q := by omega
  have hq1 : q < 9223372036854775808 := by omega
  have HQ := Lib.hid hq
  clear hq
  go_enter Try.func25, Try.ntmps25
  go_upto_if 14 with fail
  go_cut [1] (fun s1 wx => s1 = .int .i64 q ∧ w = wx)
  case first =>
    go_wp2_with fail
    all_goals go_meet
    all_goals exact ⟨congrArg (Value.int .i64) (by have := HQ.out; omega), rfl⟩
  case rest =>
  obtain ⟨rfl, rfl⟩ := hcut
  go_upto_if 16 with fail
  go_cut [1] (fun s1 wx => s1 = .int .i64 (mo m : Nat) ∧ w = wx)
  case first =>
    go_wp2_with fail
    all_goals go_meet
    all_goals (have hmo : ((mo m : Nat) : Int) = min q 4096 := (by have := HQ.out; unfold mo; omega))
    all_goals exact ⟨congrArg (Value.int .i64) (by omega), rfl⟩
  case rest =>
  obtain ⟨rfl, rfl⟩ := hcut
  clear HQ hq0 hq1
  generalize mo m = M at *
  clear hm1 hm2
  have HU : Hid (upE M s = if (vd 0 s).err ≠ 0 then (vd 0 s).err else if M < (vd 0 s).val then 3 else if (ur M (vd 0 s).val [] (vd 0 s).rest).err ≠ 0 then (ur M (vd 0 s).val [] (vd 0 s).rest).err else if (ur M (vd 0 s).val [] (vd 0 s).rest).rest ≠ [] then 4 else 0) := rfl
  have HV : Hid (upE M s = 0 → upL M s = (ur M (vd 0 s).val [] (vd 0 s).rest).val) := fun h => by unfold upL; rw [if_pos h]
  have hnew := rf_new w s hs
  have HAL := Lib.hid ((Below.refl w.heap.size w).alloc (Nat.le_refl _) (.cells #[.string (str s), .int .i64 0, .int .i64 0] 66))
  go_wp2_with fail
  refine (refRVar w.heap.size s 0 _ hnew).mono ?_
  rintro E w2 ⟨rfl, hr2⟩
  rw [fin_of] at hr2
  have hb2 : Below w.heap.size w w2 := below_on' HAL.out hr2.2 (fun k e => by cases e; exact Nat.le_refl _) (by simp)
  have hsz2 : w.heap.size + 1 ≤ w2.heap.size := by have := hr2.2.size; simp at this; omega
  have HB2 := Lib.hid hb2
  have HR2 := Lib.hid hr2.1
  have hce := rf_e hr2.1
  clear hnew hr2 hb2
  by_cases he : (vd 0 s).err = 0
  · rw [he] at hce
    have hR0 := HR2.out
    rw [he] at hR0
    have HR0 := Lib.hid hR0
    have hu := HU.out
    rw [if_neg (by rw [he]; simp)] at hu
    have HU1 := Lib.hid hu
    clear HR2 hR0 hu HU
    have hvl := vd_val_lt s
    have hu1 := u64_id (M : Int) (by omega) (by omega)
    by_cases hM : M < (vd 0 s).val
    · have HE : Hid (upE M s = 3) := by show _ = _; rw [HU1.out, if_pos hM]
      clear HU1
      go_wp2
      go_ret2
      exact unTo_bad HE.out (by decide) HB2.out
    · rw [if_neg hM] at HU1
      have hni0 : IntKind.i64.wrap ((vd 0 s).val : Int) = ((vd 0 s).val : Int) := IntWalk.i64_in _ (by omega)
      have HNI := Lib.hid hni0
      clear hni0
      go_wp2
      clear hu1 hce
      go_loopg [8, 9] ((vd 0 s).val) (fun k s8 s9 wr => UnAtR w s M k s8 s9 wr)
      case atStart => exact ⟨0, [], (vd 0 s).rest, none, 0, by omega, rfl, rfl, Nat.zero_le _, by simp, World.ownsRow_nil _ _ _ _, HR0.out, rfl, HB2.out⟩
      case round =>
        obtain ⟨j, acc, l, ao, cap, hjk, rfl, rfl, hacc, hja, hown, hrd, hT, hb⟩ := hrel
        have HJA := Lib.hid hja
        have HT := Lib.hid hT
        have HB := Lib.hid hb
        have hsz := hown
        have hni1 := HNI.out
        clear hT hb HR0 HB2 hsz hja
        cases gk with
        | zero =>
          have hj : j = (vd 0 s).val := by omega
          rw [← hj] at hni1
          rw [← hj]
          have HT2 : Hid (ur M (vd 0 s).val [] (vd 0 s).rest = ⟨0, acc, l⟩) := HT.out
          have hu := HU1.out
          rw [HT2.out, if_neg (by simp)] at hu
          have HU2 := Lib.hid hu
          have HV2 : Hid (upE M s = 0 → upL M s = acc) := fun h => by rw [HV.out h, HT2.out]
          have HO := Lib.hid hown
          clear hu HU1 HV HT HT2 hown hj hjk hM hvl HNI HJA
          go_wp2_with fail
          refine (refRest _ _ _ _ hrd).mono ?_
          rintro E w3 ⟨rfl, hg3⟩
          have HG3 := Lib.hid hg3
          have HS3 := Lib.hid (rf_lt hrd)
          clear hrd
          cases l with
          | nil =>
            have HE : Hid (upE M s = 0) := by show _ = _; rw [HU2.out]; simp
            have hne : (str []).toList.isEmpty = true := by rw [str_empty]; rfl
            go_wp2
            go_ret2
            refine ⟨ao, cap, ?_, ?_, ?_⟩
            · rw [HE.out, HV2.out HE.out]; rfl
            · rw [HV2.out HE.out]
              exact own_lower (World.ownsRow.kept HO.out HG3.out (Classical.em _))
            · exact HB.out.trans (grown_nb HG3.out (by simp) (by have := HS3.out; omega))
          | cons b t =>
            have HE : Hid (upE M s = 4) := by show _ = _; rw [HU2.out]; simp
            have hne : (str (b :: t)).toList.isEmpty = false := by rw [str_empty]; rfl
            go_wp2
            go_ret2
            exact unTo_bad HE.out (by decide) (HB.out.trans (grown_nb HG3.out (by simp) (by have := HS3.out; omega)))
        | succ k =>
          have hjlt : j < (vd 0 s).val := by omega
          have HR : Hid (rerr l = fin (vd 0 l).err (num 1 (vd 0 l).rest).err) := rfl
          have HBD : Hid (rbad acc.getLast? (M - acc.length) l = if rerr l ≠ 0 then rerr l else if (vd 0 l).val = 0 ∨ 64 ≤ rbyt l ∨ acc.getLast? = some (UInt8.ofNat (rbyt l)) then 4 else if M - acc.length < (vd 0 l).val then 3 else 0) := rfl
          have HN : Hid (rnew acc l = acc ++ List.replicate (vd 0 l).val (UInt8.ofNat (rbyt l))) := rfl
          have hbl := rbyt_lt l
          have HVL := Lib.hid (vd_val_lt l)
          go_wp2_with fail
          refine (refRVar _ l 0 _ hrd).mono ?_
          rintro E w1 ⟨rfl, hr1⟩
          rw [fin_of] at hr1
          go_wp2_with fail
          refine (refNum _ 1 (vd 0 l).rest (vd 0 l).err _ hr1.1 (by omega) (by omega)).mono ?_
          rintro E w3 ⟨rfl, hr3⟩
          have hg13 := hr1.2.trans hr3.2
          have ho3 : Own w3 (w.heap.size + 1) (.slice ao acc.length cap) acc := rd_own hown hg13
          have HB3 := Lib.hid (below_on' HB.out hg13 (fun k e => by cases e; exact Nat.le_refl _) (by have := rf_lt hrd; omega))
          have hrd3 : Rf w3 w.heap.size (rrst l) (rerr l) := hr3.1
          have hce := rf_e hrd3
          have hby : (num 1 (vd 0 l).rest).val = rbyt l := rfl
          rw [hby]
          have HRD := Lib.hid hrd3
          have hu8 : IntKind.u8.wrap (rbyt l : Int) = (rbyt l : Int) := by rw [IntKind.wrap_u8']; omega
          have HO3 := Lib.hid ho3
          clear hr1 hr3 hg13 hown hrd hrd3 ho3 HB hby
          by_cases he : rerr l = 0
          · rw [he] at hce HRD
            have hb := HBD.out
            rw [if_neg (by rw [he]; simp)] at hb
            have HBE := Lib.hid hb
            have hlast := last_of acc (rbyt l) hbl
            have HL := Lib.hid hlast
            have hlg := refLegal (rbyt l) w3
            have HLC : Hid (0 < acc.length → ∃ b o, ao = some ⟨b, o, none⟩ ∧ w3.cell? ⟨b, o + (acc.length - 1), none⟩ = some (.int .u8 (lastV acc)) ∧ lastB acc = true) := fun h => last_cell HO3.out h
            have hsub : IntKind.u64.wrap ((M : Int) - (acc.length : Int)) = ((M - acc.length : Nat) : Int) := by rw [u64_id _ (by omega) (by omega)]; omega
            clear hb hlast HBD he HR
            generalize (vd 0 l).val = n at *
            generalize rbyt l = b at *
            generalize hbf : lastV acc = bf at *
            generalize hls : lastB acc = sm at *
            by_cases h1 : n = 0
            · subst h1
              have HC : Hid (rbad acc.getLast? (M - acc.length) l = 4) := by show _ = _; rw [HBE.out, if_pos (.inl rfl)]
              have HE : Hid (upE M s = 4) := by show _ = _; rw [HU1.out, HT.out, ur_bad HC.out (by decide)]; simp
              clear HBE HT HU1 HV hls hbf
              go_wp2
              go_ret2
              exact unTo_bad HE.out (by decide) HB3.out
            · have h1' : ((n : Int) == 0) = false := beq_eq_false_iff_ne.2 (by omega)
              by_cases h2 : 64 ≤ b
              · have HC : Hid (rbad acc.getLast? (M - acc.length) l = 4) := by show _ = _; rw [HBE.out, if_pos (.inr (.inl h2))]
                have HE : Hid (upE M s = 4) := by show _ = _; rw [HU1.out, HT.out, ur_bad HC.out (by decide)]; simp
                have hd : decide (b < 64) = false := by simp; omega
                rw [hd] at hlg
                clear HBE HT HU1 HV hd hls hbf
                go_wp2_with fail
                refine hlg.mono ?_
                rintro E w4 ⟨rfl, rfl⟩
                go_wp2
                go_ret2
                exact unTo_bad HE.out (by decide) HB3.out
              · have hd : decide (b < 64) = true := by simp; omega
                rw [hd] at hlg
                clear hd
                by_cases hj0 : j = 0
                · have hacc0 : acc = [] := HJA.out.1 hj0
                  have hgt : ¬ ((0 : Int) < (j : Int)) := by omega
                  have HB4 : Hid (rbad acc.getLast? (M - acc.length) l = if M - acc.length < n then 3 else 0) := by
                    show _ = _
                    rw [HBE.out, if_neg (by rintro (h | h | h); · exact h1 h
                                            · exact h2 h
                                            · rw [hacc0] at h; simp at h)]
                  clear HBE HL HLC hls hbf hacc0
                  by_cases h5 : M - acc.length < n
                  · have HC : Hid (rbad acc.getLast? (M - acc.length) l = 3) := by show _ = _; rw [HB4.out, if_pos h5]
                    have h5' : (((M - acc.length : Nat) : Int) < (n : Int)) := by omega
                    have HE : Hid (upE M s = 3) := by show _ = _; rw [HU1.out, HT.out, ur_bad HC.out (by decide)]; simp
                    clear HB4 HT HU1 HV
                    go_wp2_with fail
                    refine hlg.mono ?_
                    rintro E w4 ⟨rfl, rfl⟩
                    go_wp2
                    go_ret2
                    exact unTo_bad HE.out (by decide) HB3.out
                  · have HC : Hid (rbad acc.getLast? (M - acc.length) l = 0) := by show _ = _; rw [HB4.out, if_neg h5]
                    have h5' : ¬ (((M - acc.length : Nat) : Int) < (n : Int)) := by omega
                    have hn : n ≤ 4096 := by omega
                    have HT3 : Hid (ur M (vd 0 s).val [] (vd 0 s).rest = ur M k (rnew acc l) (rrst l)) := by
                      show _ = _
                      rw [HT.out, ur, if_pos HC.out]
                    have hni : IntKind.i64.wrap (n : Int) = (n : Int) := IntWalk.i64_in _ (by omega)
                    clear HB4 HT HC
                    go_wp2_with fail
                    refine hlg.mono ?_
                    rintro E w4 ⟨rfl, rfl⟩
                    go_wp2
                    go_loopw [8, 12] (fun s8 s12 wr => PushR w3 w.heap.size acc n b s8 s12 wr) (fun _ i _ => n - (intOf i).toNat)
                    case atStart => exact ⟨0, Nat.zero_le _, rfl, ao, cap, by simp, by simpa using HO3.out, Below.refl _ _⟩
                    case round =>
                      obtain ⟨i, hi, rfl, ao1, cap1, rfl, hown1, hbel⟩ := hrel
                      have hgw := rf_lt HRD.out
                      have hgs := hbel.size
                      have HS := Lib.hid (show acc ++ List.replicate (i + 1) (UInt8.ofNat b) = acc ++ List.replicate i (UInt8.ofNat b) ++ [UInt8.ofNat b] from by rw [List.replicate_succ', List.append_assoc])
                      have hbv : (b : Int) = ((UInt8.ofNat b).toNat : Int) := by rw [UInt8.toNat_ofNat']; omega
                      have HBV := Lib.hid hbv
                      clear hbv
                      have hlen : (acc ++ List.replicate i (UInt8.ofNat b)).length = acc.length + i := by simp
                      have HLN := Lib.hid hlen
                      clear hlen
                      by_cases hin : i < n
                      · generalize acc ++ List.replicate i (UInt8.ofNat b) = bb at *
                        obtain ⟨i0, hi0, hz0, hz1, hz2⟩ := info_parts info_in
                        have HI0 := Lib.hid hi0
                        have HZ0 := Lib.hid hz0
                        have HZ1 := Lib.hid hz1
                        have HZ2 := Lib.hid hz2
                        clear hi0 hz0 hz1 hz2
                        have hb1 : bb.length + 1 ≤ maxLen := by have := HLN.out; simp only [maxLen]; omega
                        have hb2 : (bb.length + 1) * 1 ≤ 140737488355328 := by have := HLN.out; omega
                        go_wp2_with (at_builtin; refine wpList_append_lies _ rfl (.tmp 89) (.tmp 91) 27 rfl (w.heap.size + 1) 22 i0 (.int .u8 0) 1 1 Try.underlying27 HI0.out HZ0.out HZ1.out HZ2.out rfl (by decide) _ _ _ (by simp [Act.eval]) (World.ownsRow.alloc hown1 _) ⟨wr.heap.size, 0, none⟩ 1 1 [_] (by simp [Act.eval]) rfl (cell_one_new _ _ _) (by simp [Value.oneCell']) (by decide) hb1 hb2 (by simp; omega) _ rfl ?_; intro g' cap' w4 hown2 hgr hat2 hlt1)
                        have HG := Lib.hid hgr
                        clear hgr hat2
                        go_wp2
                        go_roundw
                        case rel =>
                          refine ⟨i + 1, by omega, by go_num, some ⟨g', 0, none⟩, cap', ?_, ?_, ?_⟩
                          · rw [HS.out]; simp
                          · rw [HS.out]
                            have := HBV.out
                            rw [this] at hown2
                            unfold Own
                            rw [List.length_append]
                            simpa [bvs_append, bvs, bv] using hown2
                          · exact (hbel.alloc (by omega) _).grown HG.out (by simp; omega) (fun k e => (World.ownsRow.lt hown1 k e).1)
                        case measure => simp [intOf]; omega
                      · have hx : i = n := by omega
                        subst hx
                        have HRW : Hid (rnew acc l = acc ++ List.replicate i (UInt8.ofNat b)) := HN.out
                        have HLE : Hid ((rnew acc l).length ≤ M) := by show _ ≤ _; rw [HRW.out]; have := HLN.out; omega
                        have HNE : Hid (rnew acc l ≠ []) := by
                          intro e
                          have h1 := congrArg List.length e
                          rw [HRW.out, HLN.out] at h1
                          simp at h1; omega
                        have HOW := Lib.hid hown1
                        have HBL := Lib.hid hbel
                        clear hown1 hbel
                        generalize acc ++ List.replicate i (UInt8.ofNat b) = bb at *
                        go_wp2
                        go_roundg k
                        case measure => omega
                        case rel =>
                          refine ⟨j + 1, rnew acc l, rrst l, ao1, cap1, by omega, by go_num, by rw [HRW.out], HLE.out, ⟨fun h => by omega, fun h => absurd h HNE.out⟩, by rw [HRW.out]; exact HOW.out, rf_below HRD.out HBL.out, HT3.out, HB3.out.trans (HBL.out.mono (by omega))⟩
                · have hgt : (0 : Int) < (j : Int) := by omega
                  have hapos : 0 < acc.length := by
                    rcases Nat.eq_zero_or_pos acc.length with e | e
                    · exact absurd (HJA.out.2 (List.eq_nil_of_length_eq_zero e)) hj0
                    · exact e
                  obtain ⟨b0, o0, rfl, hlc, hsm⟩ := HLC.out hapos
                  have hi0 : (0 : Int) ≤ (acc.length : Int) - 1 := by omega
                  have hi1 : (acc.length : Int) - 1 < (acc.length : Int) := by omega
                  have htn : ((acc.length : Int) - 1).toNat = acc.length - 1 := by omega
                  by_cases h3 : bf = b
                  · subst h3
                    have HC : Hid (rbad acc.getLast? (M - acc.length) l = 4) := by show _ = _; rw [HBE.out, if_pos (.inr (.inr (HL.out.2 ⟨hsm, rfl⟩)))]
                    have HE : Hid (upE M s = 4) := by show _ = _; rw [HU1.out, HT.out, ur_bad HC.out (by decide)]; simp
                    clear HBE HT HU1 HV HL HLC hls hbf
                    go_wp2_with fail
                    refine hlg.mono ?_
                    rintro E w4 ⟨rfl, rfl⟩
                    go_wp2
                    go_ret2
                    exact unTo_bad HE.out (by decide) HB3.out
                  · have h3' : ((bf : Int) == (b : Int)) = false := beq_eq_false_iff_ne.2 (by omega)
                    have HB4 : Hid (rbad acc.getLast? (M - acc.length) l = if M - acc.length < n then 3 else 0) := by
                      show _ = _
                      rw [HBE.out, if_neg (by rintro (h | h | h); · exact h1 h
                                              · exact h2 h
                                              · exact h3 (HL.out.1 h).2)]
                    clear HBE HL HLC hls hbf h3
                    by_cases h5 : M - acc.length < n
                    · have HC : Hid (rbad acc.getLast? (M - acc.length) l = 3) := by show _ = _; rw [HB4.out, if_pos h5]
                      have h5' : (((M - acc.length : Nat) : Int) < (n : Int)) := by omega
                      have HE : Hid (upE M s = 3) := by show _ = _; rw [HU1.out, HT.out, ur_bad HC.out (by decide)]; simp
                      clear HB4 HT HU1 HV
                      go_wp2_with fail
                      refine hlg.mono ?_
                      rintro E w4 ⟨rfl, rfl⟩
                      go_wp2
                      go_ret2
                      exact unTo_bad HE.out (by decide) HB3.out
                    · have HC : Hid (rbad acc.getLast? (M - acc.length) l = 0) := by show _ = _; rw [HB4.out, if_neg h5]
                      have h5' : ¬ (((M - acc.length : Nat) : Int) < (n : Int)) := by omega
                      have hn : n ≤ 4096 := by omega
                      have HT3 : Hid (ur M (vd 0 s).val [] (vd 0 s).rest = ur M k (rnew acc l) (rrst l)) := by
                        show _ = _
                        rw [HT.out, ur, if_pos HC.out]
                      have hni : IntKind.i64.wrap (n : Int) = (n : Int) := IntWalk.i64_in _ (by omega)
                      clear HB4 HT HC
                      go_wp2_with fail
                      refine hlg.mono ?_
                      rintro E w4 ⟨rfl, rfl⟩
                      go_wp2
                      go_loopw [8, 12] (fun s8 s12 wr => PushR w3 w.heap.size acc n b s8 s12 wr) (fun _ i _ => n - (intOf i).toNat)
                      case atStart => exact ⟨0, Nat.zero_le _, rfl, some ⟨b0, o0, none⟩, cap, by simp, by simpa using HO3.out, Below.refl _ _⟩
                      case round =>
                        obtain ⟨i, hi, rfl, ao1, cap1, rfl, hown1, hbel⟩ := hrel
                        have hgw := rf_lt HRD.out
                        have hgs := hbel.size
                        have HS := Lib.hid (show acc ++ List.replicate (i + 1) (UInt8.ofNat b) = acc ++ List.replicate i (UInt8.ofNat b) ++ [UInt8.ofNat b] from by rw [List.replicate_succ', List.append_assoc])
                        have hbv : (b : Int) = ((UInt8.ofNat b).toNat : Int) := by rw [UInt8.toNat_ofNat']; omega
                        have HBV := Lib.hid hbv
                        clear hbv
                        have hlen : (acc ++ List.replicate i (UInt8.ofNat b)).length = acc.length + i := by simp
                        have HLN := Lib.hid hlen
                        clear hlen
                        by_cases hin : i < n
                        · generalize acc ++ List.replicate i (UInt8.ofNat b) = bb at *
                          obtain ⟨i0, hi0, hz0, hz1, hz2⟩ := info_parts info_in
                          have HI0 := Lib.hid hi0
                          have HZ0 := Lib.hid hz0
                          have HZ1 := Lib.hid hz1
                          have HZ2 := Lib.hid hz2
                          clear hi0 hz0 hz1 hz2
                          have hb1 : bb.length + 1 ≤ maxLen := by have := HLN.out; simp only [maxLen]; omega
                          have hb2 : (bb.length + 1) * 1 ≤ 140737488355328 := by have := HLN.out; omega
                          go_wp2_with (at_builtin; refine wpList_append_lies _ rfl (.tmp 89) (.tmp 91) 27 rfl (w.heap.size + 1) 22 i0 (.int .u8 0) 1 1 Try.underlying27 HI0.out HZ0.out HZ1.out HZ2.out rfl (by decide) _ _ _ (by simp [Act.eval]) (World.ownsRow.alloc hown1 _) ⟨wr.heap.size, 0, none⟩ 1 1 [_] (by simp [Act.eval]) rfl (cell_one_new _ _ _) (by simp [Value.oneCell']) (by decide) hb1 hb2 (by simp; omega) _ rfl ?_; intro g' cap' w4 hown2 hgr hat2 hlt1)
                          have HG := Lib.hid hgr
                          clear hgr hat2
                          go_wp2
                          go_roundw
                          case rel =>
                            refine ⟨i + 1, by omega, by go_num, some ⟨g', 0, none⟩, cap', ?_, ?_, ?_⟩
                            · rw [HS.out]; simp
                            · rw [HS.out]
                              have := HBV.out
                              rw [this] at hown2
                              unfold Own
                              rw [List.length_append]
                              simpa [bvs_append, bvs, bv] using hown2
                            · exact (hbel.alloc (by omega) _).grown HG.out (by simp; omega) (fun k e => (World.ownsRow.lt hown1 k e).1)
                          case measure => simp [intOf]; omega
                        · have hx : i = n := by omega
                          subst hx
                          have HRW : Hid (rnew acc l = acc ++ List.replicate i (UInt8.ofNat b)) := HN.out
                          have HLE : Hid ((rnew acc l).length ≤ M) := by show _ ≤ _; rw [HRW.out]; have := HLN.out; omega
                          have HNE : Hid (rnew acc l ≠ []) := by
                            intro e
                            have h1 := congrArg List.length e
                            rw [HRW.out, HLN.out] at h1
                            simp at h1; omega
                          have HOW := Lib.hid hown1
                          have HBL := Lib.hid hbel
                          clear hown1 hbel
                          generalize acc ++ List.replicate i (UInt8.ofNat b) = bb at *
                          go_wp2
                          go_roundg k
                          case measure => omega
                          case rel =>
                            refine ⟨j + 1, rnew acc l, rrst l, ao1, cap1, by omega, by go_num, by rw [HRW.out], HLE.out, ⟨fun h => by omega, fun h => absurd h HNE.out⟩, by rw [HRW.out]; exact HOW.out, rf_below HRD.out HBL.out, HT3.out, HB3.out.trans (HBL.out.mono (by omega))⟩
          · have HE : Hid (upE M s = rerr l ∧ rerr l ≠ 0) := by
              have h6 : rbad acc.getLast? (M - acc.length) l = rerr l := by rw [HBD.out, if_pos he]
              refine ⟨?_, he⟩
              rw [HU1.out, HT.out, ur_bad h6 he]
              simp [he]
            have hb0 : (rerr l == 0) = false := beq_eq_false_iff_ne.2 he
            clear he HT HU1 HV HBD HR HN
            generalize rerr l = e at *
            go_wp2
            go_quiet (fail)
            go_wp2
            go_ret2
            exact unTo_bad HE.out.1 HE.out.2 (HB3.out.trans ⟨rfl, rfl, rfl, Nat.le_refl _, fun _ _ => rfl⟩)
  · have hb0 : ((vd 0 s).err == 0) = false := beq_eq_false_iff_ne.2 he
    have HE : Hid (upE M s = (vd 0 s).err ∧ (vd 0 s).err ≠ 0) := ⟨by rw [HU.out, if_pos he], he⟩
    clear he HU
    go_wp2
    go_quiet (fail)
    go_wp2
    go_ret2
    exact unTo_bad HE.out.1 HE.out.2 (HB2.out.trans ⟨rfl, rfl, rfl, Nat.le_refl _, fun _ _ => rfl⟩)
end Go.Proofs.Ytkhecaohbmlnlaa
