/- The statement CodecOne of layer 2: the Go function returns true. Conditions: its arguments read as a text and a list of kinds. -/
import Derived.Test.YtdjiklokmiaieaaLr
namespace Go.Proofs.Ytdjiklokmiaieaa
open Go.RowKit
set_option linter.unusedVariables false

theorem num_inv {k : Nat} {l : List UInt8} (h : (num k l).err = 0) : l = le k (num k l).val ++ (num k l).rest := by
  unfold num at h ⊢
  split at h
  · rename_i hk
    rw [if_pos hk]
    have hl : (l.take k).length = k := by rw [List.length_take]; omega
    have := le_un (l.take k)
    rw [hl] at this
    show l = le k (un (l.take k)) ++ l.drop k
    rw [this, List.take_append_drop]
  · simp at h
theorem txd_inv {l : List UInt8} (h : (txd l).err = 0) : l = tx (txd l).val ++ (txd l).rest := by
  unfold txd at h ⊢
  by_cases h0 : (vd 0 l).err = 0
  · rw [if_pos h0] at h ⊢
    obtain ⟨h1, h2⟩ := vr_vd l h0
    unfold tk at h ⊢
    by_cases h3 : (vd 0 l).val ≤ (vd 0 l).rest.length
    · rw [if_pos h3]
      have hl : ((vd 0 l).rest.take (vd 0 l).val).length = (vd 0 l).val := by rw [List.length_take]; omega
      show l = tx ((vd 0 l).rest.take (vd 0 l).val) ++ (vd 0 l).rest.drop (vd 0 l).val
      unfold tx
      rw [hl, List.append_assoc, List.take_append_drop]
      exact h1
    · rw [if_neg h3] at h
      simp at h
  · rw [if_neg h0] at h
    exact absurd h h0
theorem vd_inv {l : List UInt8} (h : (vd 0 l).err = 0) : l = vr (vd 0 l).val ++ (vd 0 l).rest := (vr_vd l h).1
theorem vd_val_lt (l : List UInt8) : (vd 0 l).val < 18446744073709551616 := by
  by_cases h : (vd 0 l).err = 0
  · exact (vr_vd l h).2
  · rw [(vd_err h).2]; omega
theorem txd_val_len (l : List UInt8) : (txd l).val.length ≤ l.length := by
  unfold txd
  split
  · exact Nat.le_trans (tk_len _ _).2 (vd_len l 0)
  · simp
theorem rd_below {w w' : World} {g B : Nat} {l : List UInt8} {e : Int} (h : Rd w g l e) (hb : Below B w w') (hg : g < B) : Rd w' g l e := ⟨h.1.below hb hg, h.2⟩
/-- A round of CodecOne, at its head: what was read so far is what is written. -/
def OneRel (W : World) (s : List UInt8) (n g1 g2 : Nat) (i : Value) (wr : World) : Prop :=
  ∃ (k : Nat) (bs l : List UInt8), k ≤ n ∧ i = .int .i64 k ∧ s = bs ++ l ∧ Rd wr g1 l 0 ∧ Wr wr g2 bs ∧ Below g1 W wr

set_option maxHeartbeats 4000000 in
set_option maxRecDepth 20000 in
theorem lawOne (w : World) (s : List UInt8) (a : Option Addr) (len cap : Nat) (ks : List Nat) (h : Kinds w w.heap.size a len ks) (hsl : s.length ≤ maxLen) :
    Calls Try.prog 6 #[.string (str s), .slice a len cap] w fun E w' => E = .returned (.bool true) ∧ Below w.heap.size w w' := by
  have hlen := h.1
  have hml := h.2.1
  subst hlen
  unfold maxLen at hml hsl
  have hsz := str_size s
  by_cases hbig : 1000 < s.length ∨ 60 < ks.length
  · have hc : 1000 < s.length ∨ (s.length ≤ 1000 ∧ 60 < ks.length) := by omega
    clear hbig h
    rcases hc with h3 | ⟨h3, h6⟩
    all_goals
      go_enter Try.func6, Try.ntmps6
      go_wp2_with fail
      refine (works_c _).mono ?_
      rintro E w1 ⟨rfl, hw1⟩
      go_wp2
      go_ret
      exact ⟨rfl, below_of_grown hw1⟩
  · have h3 : s.length ≤ 1000 := by omega
    have h6 : ks.length ≤ 60 := by omega
    clear hbig hml hsl
    have H := Lib.hid h
    clear h
    go_enter Try.func6, Try.ntmps6
    go_wp2_with fail
    refine (rdNew s _ (by omega)).mono ?_
    rintro E W1 ⟨rfl, hr0, hg0, hz0⟩
    have hz1 := Lib.hid hz0
    clear hz0
    have hg12 := hr0.1.lt
    have hwr0 := wr_new W1
    have hrd0 := rd_alloc hr0 (.cells #[.slice none 0 0] 28)
    have HB0 := Lib.hid ((below_of_grown hg0).alloc (by omega) (.cells #[.slice none 0 0] 28))
    generalize hG1 : w.heap.size = g1 at *
    generalize hG2 : W1.heap.size = g2 at *
    have HG1 := Lib.hid hG1
    have HG2 := Lib.hid hG2
    clear hG1 hG2 hg0 hr0
    go_wp2
    rw [HG2.out]
    go_loopw [7, 8] (fun i _ wr => OneRel w s ks.length g1 g2 i wr) (fun i _ _ => ks.length - (intOf i).toNat)
    case atStart => exact ⟨0, [], s, by omega, rfl, rfl, hrd0, hwr0, HB0.out⟩
    case round =>
    obtain ⟨k, bs, l, hk, rfl, hs, hrd, hwr, hbel⟩ := hrel
    have hlt1 := hrd.1.lt
    have hlt2 := wr_lt hwr
    have hbsl : bs.length ≤ s.length ∧ l.length ≤ s.length := by rw [hs, List.length_append]; omega
    obtain ⟨hbs1, hbs2⟩ := hbsl
    have hsb := str_size bs
    have hsl := str_size l
    have hex : (str s).extract 0 bs.length = str bs := by rw [str_cut, hs, List.take_left]
    have hap : str bs ++ str l = str s := by rw [str_append, ← hs]
    have hq1 := str_eqv bs
    have hq2 := str_eqv s
    have HS := Lib.hid hs
    clear hs
    by_cases hlt : k < ks.length
    · obtain ⟨b, o, ha, hbB, hkd, ck⟩ := (kinds_below H.out hbel).2.2 k hlt
      subst ha
      generalize hK : ks[k]'hlt = kd at *
      clear hK
      rcases rem7 kd with h7 | h7 | h7 | h7 | h7 | h7 | h7
      · have hk7 : ((kd : Int) % 7) = 0 := by omega
        clear h7
        go_wp2_with fail
        refine (wrBytes _ _ _ hwr).mono ?_
        rintro E w0 ⟨rfl, rfl⟩
        go_wp2_with fail
        refine (rdU8 g1 l 0 _ hrd).mono ?_
        rintro E w1 ⟨rfl, hr1, hg1⟩
        rw [fin_of] at hr1
        have hw1 := wr_on hwr hg1 (by omega)
        have hb1 := below_at hbel hg1 (by omega) (by omega)
        have hs1 := hg1.size
        go_wp2_with fail
        refine (wrU8 g2 (num 1 l).val bs _ hw1 (by omega) (num_val_lt 1 l)).mono ?_
        rintro E w2 ⟨rfl, hw2, hbb2⟩
        have hr2 := rd_below hr1 hbb2 (by omega)
        have HB2 := Lib.hid (hb1.trans (hbb2.mono (by omega)))
        have hlt3 := hr2.1.lt
        clear hb1 hg1 hw1 hr1 hbb2 hs1
        by_cases hte : (num 1 l).err = 0
        · have HI := Lib.hid (num_inv hte)
          rw [hte] at hr2
          have HW2 := Lib.hid hw2
          clear hte hw2
          go_wp2_with fail
          refine (rdErr _ _ _ _ hr2).mono ?_
          rintro E w3 ⟨rfl, rfl⟩
          go_wp2
          go_roundw
          case rel => exact ⟨k + 1, bs ++ le 1 (num 1 l).val, (num 1 l).rest, by omega, by go_num, by rw [List.append_assoc, ← HI.out]; exact HS.out, hr2, HW2.out, HB2.out⟩
          case measure => simp [intOf]; omega
        · have hte2 : ((num 1 l).err != 0) = true := by simp [hte]
          clear hte hw2
          go_wp2_with fail
          refine (rdErr _ _ _ _ hr2).mono ?_
          rintro E w3 ⟨rfl, rfl⟩
          go_wp2_with fail
          refine (works_c _).mono ?_
          rintro E w3 ⟨rfl, hw3⟩
          go_wp2
          go_ret
          exact ⟨rfl, by rw [HG1.out]; exact below_none HB2.out hw3 (by omega)⟩
      · have hk7 : ((kd : Int) % 7) = 1 := by omega
        clear h7
        go_wp2_with fail
        refine (wrBytes _ _ _ hwr).mono ?_
        rintro E w0 ⟨rfl, rfl⟩
        go_wp2_with fail
        refine (rdU16 g1 l 0 _ hrd).mono ?_
        rintro E w1 ⟨rfl, hr1, hg1⟩
        rw [fin_of] at hr1
        have hw1 := wr_on hwr hg1 (by omega)
        have hb1 := below_at hbel hg1 (by omega) (by omega)
        have hs1 := hg1.size
        go_wp2_with fail
        refine (wrU16 g2 (num 2 l).val bs _ hw1 (by omega) (num_val_lt 2 l)).mono ?_
        rintro E w2 ⟨rfl, hw2, hbb2⟩
        have hr2 := rd_below hr1 hbb2 (by omega)
        have HB2 := Lib.hid (hb1.trans (hbb2.mono (by omega)))
        have hlt3 := hr2.1.lt
        clear hb1 hg1 hw1 hr1 hbb2 hs1
        by_cases hte : (num 2 l).err = 0
        · have HI := Lib.hid (num_inv hte)
          rw [hte] at hr2
          have HW2 := Lib.hid hw2
          clear hte hw2
          go_wp2_with fail
          refine (rdErr _ _ _ _ hr2).mono ?_
          rintro E w3 ⟨rfl, rfl⟩
          go_wp2
          go_roundw
          case rel => exact ⟨k + 1, bs ++ le 2 (num 2 l).val, (num 2 l).rest, by omega, by go_num, by rw [List.append_assoc, ← HI.out]; exact HS.out, hr2, HW2.out, HB2.out⟩
          case measure => simp [intOf]; omega
        · have hte2 : ((num 2 l).err != 0) = true := by simp [hte]
          clear hte hw2
          go_wp2_with fail
          refine (rdErr _ _ _ _ hr2).mono ?_
          rintro E w3 ⟨rfl, rfl⟩
          go_wp2_with fail
          refine (works_c _).mono ?_
          rintro E w3 ⟨rfl, hw3⟩
          go_wp2
          go_ret
          exact ⟨rfl, by rw [HG1.out]; exact below_none HB2.out hw3 (by omega)⟩
      · have hk7 : ((kd : Int) % 7) = 2 := by omega
        clear h7
        go_wp2_with fail
        refine (wrBytes _ _ _ hwr).mono ?_
        rintro E w0 ⟨rfl, rfl⟩
        go_wp2_with fail
        refine (rdU32 g1 l 0 _ hrd).mono ?_
        rintro E w1 ⟨rfl, hr1, hg1⟩
        rw [fin_of] at hr1
        have hw1 := wr_on hwr hg1 (by omega)
        have hb1 := below_at hbel hg1 (by omega) (by omega)
        have hs1 := hg1.size
        go_wp2_with fail
        refine (wrU32 g2 (num 4 l).val bs _ hw1 (by omega) (num_val_lt 4 l)).mono ?_
        rintro E w2 ⟨rfl, hw2, hbb2⟩
        have hr2 := rd_below hr1 hbb2 (by omega)
        have HB2 := Lib.hid (hb1.trans (hbb2.mono (by omega)))
        have hlt3 := hr2.1.lt
        clear hb1 hg1 hw1 hr1 hbb2 hs1
        by_cases hte : (num 4 l).err = 0
        · have HI := Lib.hid (num_inv hte)
          rw [hte] at hr2
          have HW2 := Lib.hid hw2
          clear hte hw2
          go_wp2_with fail
          refine (rdErr _ _ _ _ hr2).mono ?_
          rintro E w3 ⟨rfl, rfl⟩
          go_wp2
          go_roundw
          case rel => exact ⟨k + 1, bs ++ le 4 (num 4 l).val, (num 4 l).rest, by omega, by go_num, by rw [List.append_assoc, ← HI.out]; exact HS.out, hr2, HW2.out, HB2.out⟩
          case measure => simp [intOf]; omega
        · have hte2 : ((num 4 l).err != 0) = true := by simp [hte]
          clear hte hw2
          go_wp2_with fail
          refine (rdErr _ _ _ _ hr2).mono ?_
          rintro E w3 ⟨rfl, rfl⟩
          go_wp2_with fail
          refine (works_c _).mono ?_
          rintro E w3 ⟨rfl, hw3⟩
          go_wp2
          go_ret
          exact ⟨rfl, by rw [HG1.out]; exact below_none HB2.out hw3 (by omega)⟩
      · have hk7 : ((kd : Int) % 7) = 3 := by omega
        clear h7
        go_wp2_with fail
        refine (wrBytes _ _ _ hwr).mono ?_
        rintro E w0 ⟨rfl, rfl⟩
        go_wp2_with fail
        refine (rdU64 g1 l 0 _ hrd).mono ?_
        rintro E w1 ⟨rfl, hr1, hg1⟩
        rw [fin_of] at hr1
        have hw1 := wr_on hwr hg1 (by omega)
        have hb1 := below_at hbel hg1 (by omega) (by omega)
        have hs1 := hg1.size
        go_wp2_with fail
        refine (wrU64 g2 (num 8 l).val bs _ hw1 (by omega) (num_val_lt 8 l)).mono ?_
        rintro E w2 ⟨rfl, hw2, hbb2⟩
        have hr2 := rd_below hr1 hbb2 (by omega)
        have HB2 := Lib.hid (hb1.trans (hbb2.mono (by omega)))
        have hlt3 := hr2.1.lt
        clear hb1 hg1 hw1 hr1 hbb2 hs1
        by_cases hte : (num 8 l).err = 0
        · have HI := Lib.hid (num_inv hte)
          rw [hte] at hr2
          have HW2 := Lib.hid hw2
          clear hte hw2
          go_wp2_with fail
          refine (rdErr _ _ _ _ hr2).mono ?_
          rintro E w3 ⟨rfl, rfl⟩
          go_wp2
          go_roundw
          case rel => exact ⟨k + 1, bs ++ le 8 (num 8 l).val, (num 8 l).rest, by omega, by go_num, by rw [List.append_assoc, ← HI.out]; exact HS.out, hr2, HW2.out, HB2.out⟩
          case measure => simp [intOf]; omega
        · have hte2 : ((num 8 l).err != 0) = true := by simp [hte]
          clear hte hw2
          go_wp2_with fail
          refine (rdErr _ _ _ _ hr2).mono ?_
          rintro E w3 ⟨rfl, rfl⟩
          go_wp2_with fail
          refine (works_c _).mono ?_
          rintro E w3 ⟨rfl, hw3⟩
          go_wp2
          go_ret
          exact ⟨rfl, by rw [HG1.out]; exact below_none HB2.out hw3 (by omega)⟩
      · have hk7 : ((kd : Int) % 7) = 4 := by omega
        clear h7
        have HV := Lib.hid (show IntKind.u32.wrap (wrap32 ((num 4 l).val : Int)) = ((num 4 l).val : Int) from by rw [i32_u32, Nat.mod_eq_of_lt (num_val_lt 4 l)])
        go_wp2_with fail
        refine (wrBytes _ _ _ hwr).mono ?_
        rintro E w0 ⟨rfl, rfl⟩
        go_wp2_with fail
        refine (rdI32 g1 l 0 _ hrd).mono ?_
        rintro E w1 ⟨rfl, hr1, hg1⟩
        rw [fin_of] at hr1
        have hw1 := wr_on hwr hg1 (by omega)
        have hb1 := below_at hbel hg1 (by omega) (by omega)
        have hs1 := hg1.size
        go_wp2_with fail
        refine (wrI32 g2 (num 4 l).val _ bs _ hw1 (by omega) (num_val_lt 4 l) HV.out).mono ?_
        rintro E w2 ⟨rfl, hw2, hbb2⟩
        have hr2 := rd_below hr1 hbb2 (by omega)
        have HB2 := Lib.hid (hb1.trans (hbb2.mono (by omega)))
        have hlt3 := hr2.1.lt
        clear hb1 hg1 hw1 hr1 hbb2 hs1
        by_cases hte : (num 4 l).err = 0
        · have HI := Lib.hid (num_inv hte)
          rw [hte] at hr2
          have HW2 := Lib.hid hw2
          clear hte hw2
          go_wp2_with fail
          refine (rdErr _ _ _ _ hr2).mono ?_
          rintro E w3 ⟨rfl, rfl⟩
          go_wp2
          go_roundw
          case rel => exact ⟨k + 1, bs ++ le 4 (num 4 l).val, (num 4 l).rest, by omega, by go_num, by rw [List.append_assoc, ← HI.out]; exact HS.out, hr2, HW2.out, HB2.out⟩
          case measure => simp [intOf]; omega
        · have hte2 : ((num 4 l).err != 0) = true := by simp [hte]
          clear hte hw2
          go_wp2_with fail
          refine (rdErr _ _ _ _ hr2).mono ?_
          rintro E w3 ⟨rfl, rfl⟩
          go_wp2_with fail
          refine (works_c _).mono ?_
          rintro E w3 ⟨rfl, hw3⟩
          go_wp2
          go_ret
          exact ⟨rfl, by rw [HG1.out]; exact below_none HB2.out hw3 (by omega)⟩
      · have hk7 : ((kd : Int) % 7) = 5 := by omega
        clear h7
        go_wp2_with fail
        refine (wrBytes _ _ _ hwr).mono ?_
        rintro E w0 ⟨rfl, rfl⟩
        go_wp2_with fail
        refine (rdVar g1 l 0 _ hrd).mono ?_
        rintro E w1 ⟨rfl, hr1, hg1⟩
        rw [fin_of] at hr1
        have hw1 := wr_on hwr hg1 (by omega)
        have hb1 := below_at hbel hg1 (by omega) (by omega)
        have hs1 := hg1.size
        go_wp2_with fail
        refine (wrVar g2 (vd 0 l).val bs _ hw1 (by omega) (vd_val_lt l)).mono ?_
        rintro E w2 ⟨rfl, hw2, hbb2⟩
        have hr2 := rd_below hr1 hbb2 (by omega)
        have HB2 := Lib.hid (hb1.trans (hbb2.mono (by omega)))
        have hlt3 := hr2.1.lt
        clear hb1 hg1 hw1 hr1 hbb2 hs1
        by_cases hte : (vd 0 l).err = 0
        · have HI := Lib.hid (vd_inv hte)
          rw [hte] at hr2
          have HW2 := Lib.hid hw2
          clear hte hw2
          go_wp2_with fail
          refine (rdErr _ _ _ _ hr2).mono ?_
          rintro E w3 ⟨rfl, rfl⟩
          go_wp2
          go_roundw
          case rel => exact ⟨k + 1, bs ++ vr (vd 0 l).val, (vd 0 l).rest, by omega, by go_num, by rw [List.append_assoc, ← HI.out]; exact HS.out, hr2, HW2.out, HB2.out⟩
          case measure => simp [intOf]; omega
        · have hte2 : ((vd 0 l).err != 0) = true := by simp [hte]
          clear hte hw2
          go_wp2_with fail
          refine (rdErr _ _ _ _ hr2).mono ?_
          rintro E w3 ⟨rfl, rfl⟩
          go_wp2_with fail
          refine (works_c _).mono ?_
          rintro E w3 ⟨rfl, hw3⟩
          go_wp2
          go_ret
          exact ⟨rfl, by rw [HG1.out]; exact below_none HB2.out hw3 (by omega)⟩
      · have hk7 : ((kd : Int) % 7) = 6 := by omega
        clear h7
        go_wp2_with fail
        refine (wrBytes _ _ _ hwr).mono ?_
        rintro E w0 ⟨rfl, rfl⟩
        go_wp2_with fail
        refine (rdText g1 l 0 _ hrd).mono ?_
        rintro E w1 ⟨rfl, hr1, hg1⟩
        rw [fin_of] at hr1
        have hw1 := wr_on hwr hg1 (by omega)
        have hb1 := below_at hbel hg1 (by omega) (by omega)
        have hs1 := hg1.size
        go_wp2_with fail
        refine (wrText g2 (txd l).val bs _ hw1 (by have := txd_val_len l; omega)).mono ?_
        rintro E w2 ⟨rfl, hw2, hbb2⟩
        have hr2 := rd_below hr1 hbb2 (by omega)
        have HB2 := Lib.hid (hb1.trans (hbb2.mono (by omega)))
        have hlt3 := hr2.1.lt
        clear hb1 hg1 hw1 hr1 hbb2 hs1
        by_cases hte : (txd l).err = 0
        · have HI := Lib.hid (txd_inv hte)
          rw [hte] at hr2
          have HW2 := Lib.hid hw2
          clear hte hw2
          go_wp2_with fail
          refine (rdErr _ _ _ _ hr2).mono ?_
          rintro E w3 ⟨rfl, rfl⟩
          go_wp2
          go_roundw
          case rel => exact ⟨k + 1, bs ++ tx (txd l).val, (txd l).rest, by omega, by go_num, by rw [List.append_assoc, ← HI.out]; exact HS.out, hr2, HW2.out, HB2.out⟩
          case measure => simp [intOf]; omega
        · have hte2 : ((txd l).err != 0) = true := by simp [hte]
          clear hte hw2
          go_wp2_with fail
          refine (rdErr _ _ _ _ hr2).mono ?_
          rintro E w3 ⟨rfl, rfl⟩
          go_wp2_with fail
          refine (works_c _).mono ?_
          rintro E w3 ⟨rfl, hw3⟩
          go_wp2
          go_ret
          exact ⟨rfl, by rw [HG1.out]; exact below_none HB2.out hw3 (by omega)⟩
    · go_wp2_with fail
      refine (wrBytes _ _ _ hwr).mono ?_
      rintro E w0 ⟨rfl, rfl⟩
      go_wp2_with fail
      refine (rdRest _ _ _ _ hrd).mono ?_
      rintro E w0 ⟨rfl, rfl⟩
      go_wp2_with fail
      refine (works_c _).mono ?_
      rintro E w1 ⟨rfl, hw1⟩
      go_wp2
      go_ret
      exact ⟨rfl, by rw [HG1.out]; exact below_none hbel hw1 (by omega)⟩
end Go.Proofs.Ytdjiklokmiaieaa
