/- Unpack: a list out of its bytes; the program's: one contract each. Condition: texts of at most 2^40 bytes. -/
import Derived.Test.YtkhecaohbmlnlaaIs
import Derived.Test.YtkhecaohbmlnlaaRdD
namespace Go.Proofs.Ytkhecaohbmlnlaa
open Go.RowKit
set_option linter.unusedVariables false

/-- The slice v owns a row of the call's own. -/
def Own (w : World) (B : Nat) (v : Value) (l : List UInt8) : Prop := w.ownsRow B 22 1 v l.length (bvs l)
/-- What takeRun leaves. -/
def TakeTo (w : World) (g M : Nat) (l acc : List UInt8) (E : Ending) (w' : World) : Prop :=
  ∃ v, E = .returned (.tuple #[v, .int .i64 (rbad acc.getLast? (M - acc.length) l)]) ∧ Below g w w' ∧
    (rbad acc.getLast? (M - acc.length) l = 0 → Rd w' g (rrst l) 0 ∧ Own w' (g + 1) v (rnew acc l) ∧ (rnew acc l).length ≤ M)
theorem rd_own {w w' : World} {g : Nat} {v : Value} {l : List UInt8} (h : Own w (g + 1) v l) (k : w.grownBy w' (some g)) : Own w' (g + 1) v l := below_row h k (by omega)
theorem last_of (l : List UInt8) (n : Nat) (hn : n < 256) : (l.getLast? = some (UInt8.ofNat n)) ↔ (lastB l = true ∧ lastV l = n) := by
  unfold lastB lastV
  cases h : l.getLast? with
  | none => simp
  | some a =>
    simp only [Option.some.injEq, true_and]
    constructor
    · rintro rfl; rw [UInt8.toNat_ofNat']; omega
    · intro e; rw [← e]; simp
/-- Where the appending loop stands. -/
def PushAt (w : World) (g : Nat) (acc : List UInt8) (n b : Nat) (s1 s52 : Value) (wr : World) : Prop :=
  ∃ j : Nat, j ≤ n ∧ s52 = .int .u64 j ∧ ∃ ao cap, s1 = .slice ao (acc ++ List.replicate j (UInt8.ofNat b)).length cap ∧ Own wr (g + 1) s1 (acc ++ List.replicate j (UInt8.ofNat b)) ∧ Below (g + 1) w wr
set_option maxHeartbeats 4000000 in
set_option maxRecDepth 20000 in
theorem takeRun_c (g M : Nat) (ao : Option Addr) (cap : Nat) (l acc : List UInt8) (w : World) (h : Rd w g l 0) (ho : Own w (g + 1) (.slice ao acc.length cap) acc) (ha : acc.length ≤ M) (hM : M ≤ 4096) :
    Calls Try.prog 40 #[.pointer (some ⟨g, 0, none⟩), .slice ao acc.length cap, .int .i64 M] w (TakeTo w g M l acc) := by
  have HR : Hid (rerr l = fin (vd 0 l).err (num 1 (vd 0 l).rest).err) := rfl
  have HB : Hid (rbad acc.getLast? (M - acc.length) l = if rerr l ≠ 0 then rerr l else if (vd 0 l).val = 0 ∨ 64 ≤ rbyt l ∨ acc.getLast? = some (UInt8.ofNat (rbyt l)) then 4 else if M - acc.length < (vd 0 l).val then 3 else 0) := rfl
  have HN : Hid (rnew acc l = acc ++ List.replicate (vd 0 l).val (UInt8.ofNat (rbyt l))) := rfl
  have hbl := rbyt_lt l
  have hvl := vd_val_lt l
  have HVL := Lib.hid hvl
  clear hvl
  go_enter Try.func40, Try.ntmps40
  go_wp2_with fail
  refine (rdVar g l 0 _ h).mono ?_
  rintro E w1 ⟨rfl, hr1⟩
  rw [fin_of] at hr1
  go_wp2_with fail
  refine (rdU8 g (vd 0 l).rest (vd 0 l).err _ hr1.1).mono ?_
  rintro E w2 ⟨rfl, hr2⟩
  have hg12 := hr1.2.trans hr2.2
  have ho2 : Own w2 (g + 1) (.slice ao acc.length cap) acc := rd_own ho hg12
  have hb2 : Below g w w2 := grown_below hg12 (Nat.le_refl _) (by have := h.1.lt; omega)
  have hrd : Rd w2 g (rrst l) (rerr l) := hr2.1
  have hby : (num 1 (vd 0 l).rest).val = rbyt l := rfl
  rw [hby]
  have HO2 := Lib.hid ho2
  have HB2 := Lib.hid hb2
  have HRD := Lib.hid hrd
  have hin := ins_own ho2
  clear hr1 hr2 hg12 ho hb2 hby ho2
  go_wp2_with fail
  refine (last_c ao cap acc _ hin (by simp only [maxLen]; omega)).mono ?_
  rintro E w3 ⟨rfl, rfl⟩
  go_wp2_with fail
  refine (rdErr g _ _ _ hrd).mono ?_
  rintro E w3 ⟨rfl, rfl⟩
  by_cases he : rerr l = 0
  · have HE := Lib.hid he
    have hb0 : (rerr l == 0) = true := beq_iff_eq.2 he
    have HRN := HRD.out
    rw [he] at HRN
    have HRD0 := Lib.hid HRN
    have hb := HB.out
    rw [if_neg (by rw [he]; simp)] at hb
    have HB3 := Lib.hid hb
    have hlast := last_of acc (rbyt l) hbl
    have HL := Lib.hid hlast
    have hlg := legal_c (rbyt l) w2
    rw [he]
    clear HRN hb hlast hrd HRD he HE hb0 HB HR h
    have HIN := Lib.hid hin
    clear hin
    generalize (vd 0 l).val = n at *
    generalize rbyt l = b at *
    generalize lastV acc = bf at *
    generalize hls : lastB acc = sm at *
    clear hls
    by_cases h1 : n = 0
    · subst h1
      have HC : Hid (rbad acc.getLast? (M - acc.length) l = 4) := by show _ = _; rw [HB3.out, if_pos (.inl rfl)]
      clear HB3
      go_wp2
      go_ret2
      exact ⟨_, by rw [HC.out]; rfl, HB2.out, fun h => by rw [HC.out] at h; omega⟩
    · have h1' : ((n : Int) == 0) = false := beq_eq_false_iff_ne.2 (by omega)
      by_cases h2 : 64 ≤ b
      · have HC : Hid (rbad acc.getLast? (M - acc.length) l = 4) := by show _ = _; rw [HB3.out, if_pos (.inr (.inl h2))]
        have hd : decide (b < 64) = false := by simp; omega
        rw [hd] at hlg
        clear HB3 hd
        go_wp2_with fail
        refine hlg.mono ?_
        rintro E w3 ⟨rfl, rfl⟩
        go_wp2
        go_ret2
        exact ⟨_, by rw [HC.out]; rfl, HB2.out, fun h => by rw [HC.out] at h; omega⟩
      · have hd : decide (b < 64) = true := by simp; omega
        rw [hd] at hlg
        clear hd
        by_cases h3 : acc.getLast? = some (UInt8.ofNat b)
        · obtain ⟨e1, e2⟩ := HL.out.1 h3
          subst e1 e2
          have HC : Hid (rbad acc.getLast? (M - acc.length) l = 4) := by show _ = _; rw [HB3.out, if_pos (.inr (.inr h3))]
          clear HB3 h3 HL
          go_wp2_with fail
          refine hlg.mono ?_
          rintro E w3 ⟨rfl, rfl⟩
          go_wp2
          go_ret2
          exact ⟨_, by rw [HC.out]; rfl, HB2.out, fun h => by rw [HC.out] at h; omega⟩
        · have h3' : sm = false ∨ (sm = true ∧ ((b : Int) == (bf : Int)) = false) := by
            cases hsm : sm with
            | false => exact .inl rfl
            | true => exact .inr ⟨rfl, by rw [beq_eq_false_iff_ne]; intro e; exact h3 (HL.out.2 ⟨hsm, by omega⟩)⟩
          have HB4 : Hid (rbad acc.getLast? (M - acc.length) l = if M - acc.length < n then 3 else 0) := by
            show _ = _
            rw [HB3.out, if_neg (by rintro (h | h | h) <;> first | omega | exact h3 h)]
          clear HB3 h3 HL
          have hsub : IntKind.u64.wrap ((M : Int) - (acc.length : Int)) = ((M - acc.length : Nat) : Int) := by rw [u64_id _ (by omega) (by omega)]; omega
          have HSUB := Lib.hid hsub
          rcases h3' with rfl | ⟨rfl, h3'⟩
          · by_cases h5 : M - acc.length < n
            · have HC : Hid (rbad acc.getLast? (M - acc.length) l = 3) := by show _ = _; rw [HB4.out, if_pos h5]
              have h5' : (((M - acc.length : Nat) : Int) < (n : Int)) := by omega
              clear HB4
              go_wp2_with fail
              refine hlg.mono ?_
              rintro E w3 ⟨rfl, rfl⟩
              go_wp2
              go_ret2
              exact ⟨_, by rw [HC.out]; rfl, HB2.out, fun h => by rw [HC.out] at h; omega⟩
            · have HC : Hid (rbad acc.getLast? (M - acc.length) l = 0) := by show _ = _; rw [HB4.out, if_neg h5]
              have h5' : ¬ (((M - acc.length : Nat) : Int) < (n : Int)) := by omega
              have hn : n ≤ 4096 := by omega
              clear HB4
              go_wp2_with fail
              refine hlg.mono ?_
              rintro E w3 ⟨rfl, rfl⟩
              go_wp2
              go_loopw [1, 52] (fun s1 s52 wr => PushAt w2 g acc n b s1 s52 wr) (fun _ i _ => n - (intOf i).toNat)
              case atStart => exact ⟨0, Nat.zero_le _, rfl, ao, cap, by simp, by simpa using HO2.out, Below.refl _ _⟩
              case round =>
                obtain ⟨j, hj, rfl, ao1, cap1, rfl, hown, hbel⟩ := hrel
                have hgw := (HRD0.out).1.lt
                have hgs := hbel.size
                have HS := Lib.hid (show acc ++ List.replicate (j + 1) (UInt8.ofNat b) = acc ++ List.replicate j (UInt8.ofNat b) ++ [UInt8.ofNat b] from by rw [List.replicate_succ', List.append_assoc])
                have hbv : (b : Int) = ((UInt8.ofNat b).toNat : Int) := by rw [UInt8.toNat_ofNat']; omega
                have HBV := Lib.hid hbv
                clear hbv
                have hlen : (acc ++ List.replicate j (UInt8.ofNat b)).length = acc.length + j := by simp
                have HLN := Lib.hid hlen
                clear hlen
                by_cases hjn : j < n
                · generalize acc ++ List.replicate j (UInt8.ofNat b) = bb at *
                  obtain ⟨i0, hi0, hz0, hz1, hz2⟩ := info_parts info_in
                  have HI0 := Lib.hid hi0
                  have HZ0 := Lib.hid hz0
                  have HZ1 := Lib.hid hz1
                  have HZ2 := Lib.hid hz2
                  clear hi0 hz0 hz1 hz2
                  have hb1 : bb.length + 1 ≤ maxLen := by have := HLN.out; simp only [maxLen]; omega
                  have hb2 : (bb.length + 1) * 1 ≤ 140737488355328 := by have := HLN.out; omega
                  go_wp2_with (at_builtin; refine wpList_append_lies _ rfl (.tmp 54) (.tmp 56) 27 rfl (g + 1) 22 i0 (.int .u8 0) 1 1 Try.underlying27 HI0.out HZ0.out HZ1.out HZ2.out rfl (by decide) _ _ _ (by simp [Act.eval]) (World.ownsRow.alloc hown _) ⟨wr.heap.size, 0, none⟩ 1 1 [_] (by simp [Act.eval]) rfl (cell_one_new _ _ _) (by simp [Value.oneCell']) (by decide) hb1 hb2 (by simp; omega) _ rfl ?_; intro g' cap' w4 hown1 hgr hat2 hlt1)
                  have HG := Lib.hid hgr
                  clear hgr hat2
                  go_wp2
                  go_roundw
                  case rel =>
                    refine ⟨j + 1, by omega, by go_num, some ⟨g', 0, none⟩, cap', ?_, ?_, ?_⟩
                    · rw [HS.out]; simp
                    · rw [HS.out]
                      have := HBV.out
                      rw [this] at hown1
                      unfold Own
                      rw [List.length_append]
                      simpa [bvs_append, bvs, bv] using hown1
                    · exact (hbel.alloc (by omega) _).grown HG.out (by simp; omega) (fun k e => (World.ownsRow.lt hown k e).1)
                  case measure => simp [intOf]; omega
                · have hx : j = n := by omega
                  subst hx
                  have HRW : Hid (rnew acc l = acc ++ List.replicate j (UInt8.ofNat b)) := HN.out
                  have HLE : Hid ((rnew acc l).length ≤ M) := by show _ ≤ _; rw [HRW.out]; have := HLN.out; omega
                  have HOW := Lib.hid hown
                  clear hown
                  generalize acc ++ List.replicate j (UInt8.ofNat b) = bb at *
                  go_wp2
                  go_ret2
                  refine ⟨_, by rw [HC.out]; rfl, HB2.out.trans (hbel.mono (by omega)), fun _ => ⟨?_, by rw [HRW.out]; exact HOW.out, HLE.out⟩⟩
                  obtain ⟨c1, c2, c3⟩ := HRD0.out
                  exact ⟨c1.below hbel (by omega), c2, c3⟩
          · by_cases h5 : M - acc.length < n
            · have HC : Hid (rbad acc.getLast? (M - acc.length) l = 3) := by show _ = _; rw [HB4.out, if_pos h5]
              have h5' : (((M - acc.length : Nat) : Int) < (n : Int)) := by omega
              clear HB4
              go_wp2_with fail
              refine hlg.mono ?_
              rintro E w3 ⟨rfl, rfl⟩
              go_wp2
              go_ret2
              exact ⟨_, by rw [HC.out]; rfl, HB2.out, fun h => by rw [HC.out] at h; omega⟩
            · have HC : Hid (rbad acc.getLast? (M - acc.length) l = 0) := by show _ = _; rw [HB4.out, if_neg h5]
              have h5' : ¬ (((M - acc.length : Nat) : Int) < (n : Int)) := by omega
              have hn : n ≤ 4096 := by omega
              clear HB4
              go_wp2_with fail
              refine hlg.mono ?_
              rintro E w3 ⟨rfl, rfl⟩
              go_wp2
              go_loopw [1, 52] (fun s1 s52 wr => PushAt w2 g acc n b s1 s52 wr) (fun _ i _ => n - (intOf i).toNat)
              case atStart => exact ⟨0, Nat.zero_le _, rfl, ao, cap, by simp, by simpa using HO2.out, Below.refl _ _⟩
              case round =>
                obtain ⟨j, hj, rfl, ao1, cap1, rfl, hown, hbel⟩ := hrel
                have hgw := (HRD0.out).1.lt
                have hgs := hbel.size
                have HS := Lib.hid (show acc ++ List.replicate (j + 1) (UInt8.ofNat b) = acc ++ List.replicate j (UInt8.ofNat b) ++ [UInt8.ofNat b] from by rw [List.replicate_succ', List.append_assoc])
                have hbv : (b : Int) = ((UInt8.ofNat b).toNat : Int) := by rw [UInt8.toNat_ofNat']; omega
                have HBV := Lib.hid hbv
                clear hbv
                have hlen : (acc ++ List.replicate j (UInt8.ofNat b)).length = acc.length + j := by simp
                have HLN := Lib.hid hlen
                clear hlen
                by_cases hjn : j < n
                · generalize acc ++ List.replicate j (UInt8.ofNat b) = bb at *
                  obtain ⟨i0, hi0, hz0, hz1, hz2⟩ := info_parts info_in
                  have HI0 := Lib.hid hi0
                  have HZ0 := Lib.hid hz0
                  have HZ1 := Lib.hid hz1
                  have HZ2 := Lib.hid hz2
                  clear hi0 hz0 hz1 hz2
                  have hb1 : bb.length + 1 ≤ maxLen := by have := HLN.out; simp only [maxLen]; omega
                  have hb2 : (bb.length + 1) * 1 ≤ 140737488355328 := by have := HLN.out; omega
                  go_wp2_with (at_builtin; refine wpList_append_lies _ rfl (.tmp 54) (.tmp 56) 27 rfl (g + 1) 22 i0 (.int .u8 0) 1 1 Try.underlying27 HI0.out HZ0.out HZ1.out HZ2.out rfl (by decide) _ _ _ (by simp [Act.eval]) (World.ownsRow.alloc hown _) ⟨wr.heap.size, 0, none⟩ 1 1 [_] (by simp [Act.eval]) rfl (cell_one_new _ _ _) (by simp [Value.oneCell']) (by decide) hb1 hb2 (by simp; omega) _ rfl ?_; intro g' cap' w4 hown1 hgr hat2 hlt1)
                  have HG := Lib.hid hgr
                  clear hgr hat2
                  go_wp2
                  go_roundw
                  case rel =>
                    refine ⟨j + 1, by omega, by go_num, some ⟨g', 0, none⟩, cap', ?_, ?_, ?_⟩
                    · rw [HS.out]; simp
                    · rw [HS.out]
                      have := HBV.out
                      rw [this] at hown1
                      unfold Own
                      rw [List.length_append]
                      simpa [bvs_append, bvs, bv] using hown1
                    · exact (hbel.alloc (by omega) _).grown HG.out (by simp; omega) (fun k e => (World.ownsRow.lt hown k e).1)
                  case measure => simp [intOf]; omega
                · have hx : j = n := by omega
                  subst hx
                  have HRW : Hid (rnew acc l = acc ++ List.replicate j (UInt8.ofNat b)) := HN.out
                  have HLE : Hid ((rnew acc l).length ≤ M) := by show _ ≤ _; rw [HRW.out]; have := HLN.out; omega
                  have HOW := Lib.hid hown
                  clear hown
                  generalize acc ++ List.replicate j (UInt8.ofNat b) = bb at *
                  go_wp2
                  go_ret2
                  refine ⟨_, by rw [HC.out]; rfl, HB2.out.trans (hbel.mono (by omega)), fun _ => ⟨?_, by rw [HRW.out]; exact HOW.out, HLE.out⟩⟩
                  obtain ⟨c1, c2, c3⟩ := HRD0.out
                  exact ⟨c1.below hbel (by omega), c2, c3⟩
  · have hb0 : (rerr l == 0) = false := beq_eq_false_iff_ne.2 he
    have HE := Lib.hid he
    clear he
    go_wp2_with fail
    refine (rdErr g _ _ _ hrd).mono ?_
    rintro E w3 ⟨rfl, rfl⟩
    go_wp2
    go_ret2
    have hbad : rbad acc.getLast? (M - acc.length) l = rerr l := by rw [HB.out, if_pos HE.out]
    exact ⟨_, by rw [hbad]; rfl, HB2.out, fun h => absurd (by rw [← hbad]; exact h) HE.out⟩
end Go.Proofs.Ytkhecaohbmlnlaa
