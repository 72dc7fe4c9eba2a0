/- The statement CodecReads of layer 2: the Go function returns true. Conditions: its arguments read as a text and a list of kinds. -/
import Derived.Test.YtdjiklokmiaieaaLw
namespace Go.Proofs.Ytdjiklokmiaieaa
open Go.RowKit
set_option linter.unusedVariables false

/-- A slice of bytes that came in: it lies below block B. -/
def Kinds (w : World) (B : Nat) (a : Option Addr) (len : Nat) (ks : List Nat) : Prop :=
  ks.length = len ∧ len ≤ maxLen ∧ ∀ i (h : i < ks.length), ∃ b o, a = some ⟨b, o, none⟩ ∧ b < B ∧ ks[i]'h < 256 ∧ w.cell? ⟨b, o + i, none⟩ = some (.int .u8 (ks[i]'h : Nat))
theorem kinds_below {w w' : World} {B len : Nat} {a : Option Addr} {ks : List Nat} (h : Kinds w B a len ks) (hb : Below B w w') : Kinds w' B a len ks := by
  refine ⟨h.1, h.2.1, fun i hi => ?_⟩
  obtain ⟨b, o, ha, hlt, h1, c⟩ := h.2.2 i hi
  exact ⟨b, o, ha, hlt, h1, (hb.cell hlt).trans c⟩
theorem rf_far {w w' : World} {g g' : Nat} {l : List UInt8} {e : Int} (h : Rf w g l e) (k : w.grownBy w' (some g')) (hne : g ≠ g') : Rf w' g l e := by
  obtain ⟨S, p, hc, h0⟩ := h
  exact ⟨S, p, ⟨hc.1.grown k (by simpa using hne), hc.2⟩, h0⟩
theorem rd_drewN {w : World} {g : Nat} {l : List UInt8} {e : Int} (h : Rd w g l e) (n : Nat) : Rd (w.drewN n) g l e := h
theorem rf_drewN {w : World} {g : Nat} {l : List UInt8} {e : Int} (h : Rf w g l e) (n : Nat) : Rf (w.drewN n) g l e := h
theorem rf_new (w : World) (S : List UInt8) (hS : S.length ≤ 1099511627776) : Rf (w.alloc (.cells #[.string (str S), .int .i64 0, .int .i64 0] 39)) w.heap.size S 0 :=
  ⟨S, 0, ⟨Cells.made w _ _, by omega, hS⟩, fun _ => rfl, fun h => absurd rfl h⟩
theorem rf_lt {w : World} {g : Nat} {l : List UInt8} {e : Int} (h : Rf w g l e) : g < w.heap.size := by obtain ⟨S, p, hc, _⟩ := h; exact hc.1.lt
theorem num_val_lt (k : Nat) (l : List UInt8) : (num k l).val < 256 ^ k := by
  unfold num
  split
  · rename_i h
    have := un_lt (l.take k)
    rwa [List.length_take, Nat.min_eq_left h] at this
  · exact Nat.pow_pos (by omega)
theorem refRestQ (g : Nat) (l : List UInt8) (e : Int) (w : World) (h : Rf w g l e) :
    Calls Try.prog 26 #[.pointer (some ⟨g, 0, none⟩)] w fun E w' => E = .returned (.string (str l)) ∧ ∃ n, w' = w.drewN n := by
  obtain ⟨S, p, hc, h0, h1⟩ := h
  have c0 := rf_c0 hc
  have c1 := rf_c1 hc
  have c2 := rf_c2 hc
  have hs := str_size S
  have hp := hc.2.1
  have hl := hc.2.2
  by_cases he : e = 0
  · have hb : (e != 0) = false := by simp [he]
    have HL := Lib.hid (h0 he)
    have HX := Lib.hid (str_rest S p)
    clear he h0 h1
    go_enter Try.func26, Try.ntmps26
    go_wp2
    go_quiet (fail)
    go_wp2
    go_ret
    exact ⟨by rw [HL.out, ← HX.out]; rfl, _, rfl⟩
  · have hb : (e != 0) = true := by simp [he]
    have HL := Lib.hid (h1 he)
    clear he h0 h1
    go_enter Try.func26, Try.ntmps26
    go_wp2
    go_ret
    exact ⟨by rw [HL.out]; rfl, 0, rfl⟩
/-- A round of CodecReads, at its head: both readers are at the same place. -/
def ReadsRel (W : World) (n g1 g2 : Nat) (i : Value) (wr : World) : Prop :=
  ∃ (k : Nat) (l : List UInt8) (e : Int), k ≤ n ∧ i = .int .i64 k ∧ Rd wr g1 l e ∧ Rf wr g2 l e ∧ Below g1 W wr

set_option maxHeartbeats 4000000 in
set_option maxRecDepth 20000 in
theorem lawReads (w : World) (s : List UInt8) (a : Option Addr) (len cap : Nat) (ks : List Nat) (h : Kinds w w.heap.size a len ks) (hsl : s.length ≤ maxLen) :
    Calls Try.prog 4 #[.string (str s), .slice a len cap] w fun E w' => E = .returned (.bool true) ∧ Below w.heap.size w w' := by
  have hlen := h.1
  have hml := h.2.1
  subst hlen
  unfold maxLen at hml hsl
  have hsz := str_size s
  by_cases hbig : 3000 < s.length ∨ 60 < ks.length
  · have hc : 3000 < s.length ∨ (s.length ≤ 3000 ∧ 60 < ks.length) := by omega
    clear hbig h
    rcases hc with h3 | ⟨h3, h6⟩
    all_goals
      go_enter Try.func4, Try.ntmps4
      go_wp2_with fail
      refine (works_c _).mono ?_
      rintro E w1 ⟨rfl, hw1⟩
      go_wp2
      go_ret
      exact ⟨rfl, below_of_grown hw1⟩
  · have h3 : s.length ≤ 3000 := by omega
    have h6 : ks.length ≤ 60 := by omega
    clear hbig hml hsl
    have H := Lib.hid h
    clear h
    go_enter Try.func4, Try.ntmps4
    go_wp2_with fail
    refine (rdNew s _ (by omega)).mono ?_
    rintro E W1 ⟨rfl, hr0, hg0, hz0⟩
    have hz1 := Lib.hid hz0
    clear hz0
    have hg12 := hr0.1.lt
    have hrf0 := rf_new W1 s (by omega)
    have hrd0 := rd_alloc hr0 (.cells #[.string (str s), .int .i64 0, .int .i64 0] 39)
    have HB0 := Lib.hid ((below_of_grown hg0).alloc (by omega) (.cells #[.string (str s), .int .i64 0, .int .i64 0] 39))
    generalize hG1 : w.heap.size = g1 at *
    generalize hG2 : W1.heap.size = g2 at *
    have HG1 := Lib.hid hG1
    have HG2 := Lib.hid hG2
    clear hG1 hG2 hg0 hr0
    go_wp2
    rw [HG2.out]
    go_loopw [7, 8, 9, 10, 11, 12, 13, 14, 15] (fun i _ _ _ _ _ _ _ _ wr => ReadsRel w ks.length g1 g2 i wr) (fun i _ _ _ _ _ _ _ _ _ => ks.length - (intOf i).toNat)
    case atStart => exact ⟨0, s, 0, by omega, rfl, hrd0, hrf0, HB0.out⟩
    case round =>
    obtain ⟨k, l, e, hk, rfl, hrd, hrf, hbel⟩ := hrel
    have hlt1 := hrd.1.lt
    have hlt2 := rf_lt hrf
    by_cases hlt : k < ks.length
    · obtain ⟨b, o, ha, hbB, hkd, ck⟩ := (kinds_below H.out hbel).2.2 k hlt
      subst ha
      generalize hK : ks[k]'hlt = kd at *
      clear hK
      rcases rem7 kd with h7 | h7 | h7 | h7 | h7 | h7 | h7
      · have hk7 : ((kd : Int) % 7) = 0 := by omega
        clear h7
        have hv : IntKind.u64.wrap (((num 1 l).val : Nat) : Int) = (num 1 l).val := u64_id _ (by omega) (by have := num_val_lt 1 l; omega)
        go_wp2_with fail
        refine (rdU8 g1 l e _ hrd).mono ?_
        rintro E w1 ⟨rfl, hr1, hg1⟩
        have hq1 := rf_far hrf hg1 (by omega)
        have hb1 := below_at hbel hg1 (by omega) (by omega)
        have hs1 := hg1.size
        go_wp2_with fail
        refine (refNum g2 1 l e _ hq1 (by omega) (by omega)).mono ?_
        rintro E w2 ⟨rfl, hq2, hg2⟩
        have hr2 := rd_far hr1 hg2 (by omega)
        have HB2 := Lib.hid (below_at hb1 hg2 (by omega) (by omega))
        have c2 := rf_e hq2
        have hne : (fin e (num 1 l).err != fin e (num 1 l).err) = false := by simp
        have hse := str_eqv (num 1 l).rest
        clear hb1 hg1 hg2 hq1 hr1
        go_wp2
        go_quiet (first | (go_at_call 24; exact Calls.quiet_of_same ((rdErr _ _ _ _ (rd_drewN hr2 _)).mono fun _ _ hh => ⟨hh.1, hh.2.symm⟩)) | (go_at_call 25; exact Calls.quiet_of_same ((rdRest _ _ _ _ (rd_drewN hr2 _)).mono fun _ _ hh => ⟨hh.1, hh.2.symm⟩)) | (go_at_call 26; exact Calls.quiet_of (refRestQ _ _ _ _ (rf_drewN hq2 _))))
        go_wp2
        go_roundw
        case rel => exact ⟨k + 1, (num 1 l).rest, fin e (num 1 l).err, by omega, by go_num, rd_drewN hr2 _, rf_drewN hq2 _, below_none HB2.out (grown_drewN _ _ none) (by have := hr2.1.lt; omega)⟩
        case measure => simp [intOf]; omega
      · have hk7 : ((kd : Int) % 7) = 1 := by omega
        clear h7
        have hv : IntKind.u64.wrap (((num 2 l).val : Nat) : Int) = (num 2 l).val := u64_id _ (by omega) (by have := num_val_lt 2 l; omega)
        go_wp2_with fail
        refine (rdU16 g1 l e _ hrd).mono ?_
        rintro E w1 ⟨rfl, hr1, hg1⟩
        have hq1 := rf_far hrf hg1 (by omega)
        have hb1 := below_at hbel hg1 (by omega) (by omega)
        have hs1 := hg1.size
        go_wp2_with fail
        refine (refNum g2 2 l e _ hq1 (by omega) (by omega)).mono ?_
        rintro E w2 ⟨rfl, hq2, hg2⟩
        have hr2 := rd_far hr1 hg2 (by omega)
        have HB2 := Lib.hid (below_at hb1 hg2 (by omega) (by omega))
        have c2 := rf_e hq2
        have hne : (fin e (num 2 l).err != fin e (num 2 l).err) = false := by simp
        have hse := str_eqv (num 2 l).rest
        clear hb1 hg1 hg2 hq1 hr1
        go_wp2
        go_quiet (first | (go_at_call 24; exact Calls.quiet_of_same ((rdErr _ _ _ _ (rd_drewN hr2 _)).mono fun _ _ hh => ⟨hh.1, hh.2.symm⟩)) | (go_at_call 25; exact Calls.quiet_of_same ((rdRest _ _ _ _ (rd_drewN hr2 _)).mono fun _ _ hh => ⟨hh.1, hh.2.symm⟩)) | (go_at_call 26; exact Calls.quiet_of (refRestQ _ _ _ _ (rf_drewN hq2 _))))
        go_wp2
        go_roundw
        case rel => exact ⟨k + 1, (num 2 l).rest, fin e (num 2 l).err, by omega, by go_num, rd_drewN hr2 _, rf_drewN hq2 _, below_none HB2.out (grown_drewN _ _ none) (by have := hr2.1.lt; omega)⟩
        case measure => simp [intOf]; omega
      · have hk7 : ((kd : Int) % 7) = 2 := by omega
        clear h7
        have hv : IntKind.u64.wrap (((num 4 l).val : Nat) : Int) = (num 4 l).val := u64_id _ (by omega) (by have := num_val_lt 4 l; omega)
        go_wp2_with fail
        refine (rdU32 g1 l e _ hrd).mono ?_
        rintro E w1 ⟨rfl, hr1, hg1⟩
        have hq1 := rf_far hrf hg1 (by omega)
        have hb1 := below_at hbel hg1 (by omega) (by omega)
        have hs1 := hg1.size
        go_wp2_with fail
        refine (refNum g2 4 l e _ hq1 (by omega) (by omega)).mono ?_
        rintro E w2 ⟨rfl, hq2, hg2⟩
        have hr2 := rd_far hr1 hg2 (by omega)
        have HB2 := Lib.hid (below_at hb1 hg2 (by omega) (by omega))
        have c2 := rf_e hq2
        have hne : (fin e (num 4 l).err != fin e (num 4 l).err) = false := by simp
        have hse := str_eqv (num 4 l).rest
        clear hb1 hg1 hg2 hq1 hr1
        go_wp2
        go_quiet (first | (go_at_call 24; exact Calls.quiet_of_same ((rdErr _ _ _ _ (rd_drewN hr2 _)).mono fun _ _ hh => ⟨hh.1, hh.2.symm⟩)) | (go_at_call 25; exact Calls.quiet_of_same ((rdRest _ _ _ _ (rd_drewN hr2 _)).mono fun _ _ hh => ⟨hh.1, hh.2.symm⟩)) | (go_at_call 26; exact Calls.quiet_of (refRestQ _ _ _ _ (rf_drewN hq2 _))))
        go_wp2
        go_roundw
        case rel => exact ⟨k + 1, (num 4 l).rest, fin e (num 4 l).err, by omega, by go_num, rd_drewN hr2 _, rf_drewN hq2 _, below_none HB2.out (grown_drewN _ _ none) (by have := hr2.1.lt; omega)⟩
        case measure => simp [intOf]; omega
      · have hk7 : ((kd : Int) % 7) = 3 := by omega
        clear h7
        go_wp2_with fail
        refine (rdU64 g1 l e _ hrd).mono ?_
        rintro E w1 ⟨rfl, hr1, hg1⟩
        have hq1 := rf_far hrf hg1 (by omega)
        have hb1 := below_at hbel hg1 (by omega) (by omega)
        have hs1 := hg1.size
        go_wp2_with fail
        refine (refNum g2 8 l e _ hq1 (by omega) (by omega)).mono ?_
        rintro E w2 ⟨rfl, hq2, hg2⟩
        have hr2 := rd_far hr1 hg2 (by omega)
        have HB2 := Lib.hid (below_at hb1 hg2 (by omega) (by omega))
        have c2 := rf_e hq2
        have hne : (fin e (num 8 l).err != fin e (num 8 l).err) = false := by simp
        have hse := str_eqv (num 8 l).rest
        clear hb1 hg1 hg2 hq1 hr1
        go_wp2
        go_quiet (first | (go_at_call 24; exact Calls.quiet_of_same ((rdErr _ _ _ _ (rd_drewN hr2 _)).mono fun _ _ hh => ⟨hh.1, hh.2.symm⟩)) | (go_at_call 25; exact Calls.quiet_of_same ((rdRest _ _ _ _ (rd_drewN hr2 _)).mono fun _ _ hh => ⟨hh.1, hh.2.symm⟩)) | (go_at_call 26; exact Calls.quiet_of (refRestQ _ _ _ _ (rf_drewN hq2 _))))
        go_wp2
        go_roundw
        case rel => exact ⟨k + 1, (num 8 l).rest, fin e (num 8 l).err, by omega, by go_num, rd_drewN hr2 _, rf_drewN hq2 _, below_none HB2.out (grown_drewN _ _ none) (by have := hr2.1.lt; omega)⟩
        case measure => simp [intOf]; omega
      · have hk7 : ((kd : Int) % 7) = 4 := by omega
        clear h7
        have hv : IntKind.u64.wrap (((num 4 l).val : Nat) : Int) = (num 4 l).val := u64_id _ (by omega) (by have := num_val_lt 4 l; omega)
        have hv2 : IntKind.u32.wrap (wrap32 ((num 4 l).val : Int)) = (num 4 l).val := by rw [i32_u32, Nat.mod_eq_of_lt (by have := num_val_lt 4 l; omega)]
        go_wp2_with fail
        refine (rdI32 g1 l e _ hrd).mono ?_
        rintro E w1 ⟨rfl, hr1, hg1⟩
        have hq1 := rf_far hrf hg1 (by omega)
        have hb1 := below_at hbel hg1 (by omega) (by omega)
        have hs1 := hg1.size
        go_wp2_with fail
        refine (refNum g2 4 l e _ hq1 (by omega) (by omega)).mono ?_
        rintro E w2 ⟨rfl, hq2, hg2⟩
        have hr2 := rd_far hr1 hg2 (by omega)
        have HB2 := Lib.hid (below_at hb1 hg2 (by omega) (by omega))
        have c2 := rf_e hq2
        have hne : (fin e (num 4 l).err != fin e (num 4 l).err) = false := by simp
        have hse := str_eqv (num 4 l).rest
        clear hb1 hg1 hg2 hq1 hr1
        go_wp2
        go_quiet (first | (go_at_call 24; exact Calls.quiet_of_same ((rdErr _ _ _ _ (rd_drewN hr2 _)).mono fun _ _ hh => ⟨hh.1, hh.2.symm⟩)) | (go_at_call 25; exact Calls.quiet_of_same ((rdRest _ _ _ _ (rd_drewN hr2 _)).mono fun _ _ hh => ⟨hh.1, hh.2.symm⟩)) | (go_at_call 26; exact Calls.quiet_of (refRestQ _ _ _ _ (rf_drewN hq2 _))))
        go_wp2
        go_roundw
        case rel => exact ⟨k + 1, (num 4 l).rest, fin e (num 4 l).err, by omega, by go_num, rd_drewN hr2 _, rf_drewN hq2 _, below_none HB2.out (grown_drewN _ _ none) (by have := hr2.1.lt; omega)⟩
        case measure => simp [intOf]; omega
      · have hk7 : ((kd : Int) % 7) = 5 := by omega
        clear h7
        go_wp2_with fail
        refine (rdVar g1 l e _ hrd).mono ?_
        rintro E w1 ⟨rfl, hr1, hg1⟩
        have hq1 := rf_far hrf hg1 (by omega)
        have hb1 := below_at hbel hg1 (by omega) (by omega)
        have hs1 := hg1.size
        go_wp2_with fail
        refine (refRVar g2 l e _ hq1).mono ?_
        rintro E w2 ⟨rfl, hq2, hg2⟩
        have hr2 := rd_far hr1 hg2 (by omega)
        have HB2 := Lib.hid (below_at hb1 hg2 (by omega) (by omega))
        have c2 := rf_e hq2
        have hne : (fin e (vd 0 l).err != fin e (vd 0 l).err) = false := by simp
        have hse := str_eqv (vd 0 l).rest
        clear hb1 hg1 hg2 hq1 hr1
        go_wp2
        go_quiet (first | (go_at_call 24; exact Calls.quiet_of_same ((rdErr _ _ _ _ (rd_drewN hr2 _)).mono fun _ _ hh => ⟨hh.1, hh.2.symm⟩)) | (go_at_call 25; exact Calls.quiet_of_same ((rdRest _ _ _ _ (rd_drewN hr2 _)).mono fun _ _ hh => ⟨hh.1, hh.2.symm⟩)) | (go_at_call 26; exact Calls.quiet_of (refRestQ _ _ _ _ (rf_drewN hq2 _))))
        go_wp2
        go_roundw
        case rel => exact ⟨k + 1, (vd 0 l).rest, fin e (vd 0 l).err, by omega, by go_num, rd_drewN hr2 _, rf_drewN hq2 _, below_none HB2.out (grown_drewN _ _ none) (by have := hr2.1.lt; omega)⟩
        case measure => simp [intOf]; omega
      · have hk7 : ((kd : Int) % 7) = 6 := by omega
        clear h7
        have hv := str_eqv (txd l).val
        go_wp2_with fail
        refine (rdText g1 l e _ hrd).mono ?_
        rintro E w1 ⟨rfl, hr1, hg1⟩
        have hq1 := rf_far hrf hg1 (by omega)
        have hb1 := below_at hbel hg1 (by omega) (by omega)
        have hs1 := hg1.size
        go_wp2_with fail
        refine (refText' g2 l e _ hq1).mono ?_
        rintro E w2 ⟨rfl, hq2, hg2⟩
        have hr2 := rd_far hr1 hg2 (by omega)
        have HB2 := Lib.hid (below_at hb1 hg2 (by omega) (by omega))
        have c2 := rf_e hq2
        have hne : (fin e (txd l).err != fin e (txd l).err) = false := by simp
        have hse := str_eqv (txd l).rest
        clear hb1 hg1 hg2 hq1 hr1
        go_wp2
        go_quiet (first | (go_at_call 24; exact Calls.quiet_of_same ((rdErr _ _ _ _ (rd_drewN hr2 _)).mono fun _ _ hh => ⟨hh.1, hh.2.symm⟩)) | (go_at_call 25; exact Calls.quiet_of_same ((rdRest _ _ _ _ (rd_drewN hr2 _)).mono fun _ _ hh => ⟨hh.1, hh.2.symm⟩)) | (go_at_call 26; exact Calls.quiet_of (refRestQ _ _ _ _ (rf_drewN hq2 _))))
        go_wp2
        go_roundw
        case rel => exact ⟨k + 1, (txd l).rest, fin e (txd l).err, by omega, by go_num, rd_drewN hr2 _, rf_drewN hq2 _, below_none HB2.out (grown_drewN _ _ none) (by have := hr2.1.lt; omega)⟩
        case measure => simp [intOf]; omega
    · go_wp2_with fail
      refine (works_c _).mono ?_
      rintro E w1 ⟨rfl, hw1⟩
      go_wp2
      go_ret
      exact ⟨rfl, by rw [HG1.out]; exact below_none hbel hw1 (by omega)⟩
end Go.Proofs.Ytdjiklokmiaieaa
