/- The statements' own small functions: records, their bytes. Conditions: the table of four steps lies in its variable. -/
import Derived.Test.YthnelnfefllhpaaDoorBg
import Derived.Deep.Strs
namespace Go.Proofs.YthnelnfefllhpaaDoor
open Go.RowKit
set_option linter.unusedVariables false
set_option linter.unusedSimpArgs false
set_option maxRecDepth 20000

def rH (n f : Nat) : Rc := ⟨3, 0, 0, 0, 0, n, f, 1, 0⟩
def rO (f i : Nat) : Rc := ⟨1, f, i, 0, 0, 0, 0, 0, 0⟩
def rS (f a b : Nat) : Rc := ⟨2, f, 0, a, b, 0, 0, 0, 0⟩
theorem rH_ok {n f : Nat} (hn : n < 18446744073709551616) (hf : f < 18446744073709551616) : (rH n f).fit ∧ mayB (rH n f) = true :=
  ⟨⟨by simp [rH], by simp [rH], by simp [rH], by simp [rH], by simp [rH], by simp [rH], hn, hf, by simp [rH], by simp [rH]⟩, by simp [mayB, lowB, rH]⟩
theorem rO_ok {f i : Nat} (hf : f < 18446744073709551616) (hi : i < 64) : (rO f i).fit ∧ mayB (rO f i) = true :=
  ⟨⟨by simp [rO], by simp [rO], hf, by show i < 256; omega, by simp [rO], by simp [rO], by simp [rO], by simp [rO], by simp [rO], by simp [rO]⟩, by simp [mayB, lowB, rO, hi]⟩
theorem rS_ok {f a b : Nat} (hf : f < 18446744073709551616) (ha : a < 64) (hb : b < 64) : (rS f a b).fit ∧ mayB (rS f a b) = true :=
  ⟨⟨by simp [rS], by simp [rS], hf, by simp [rS], by show a < 256; omega, by show b < 256; omega, by simp [rS], by simp [rS], by simp [rS], by simp [rS]⟩, by simp [mayB, lowB, rS, ha, hb]⟩
attribute [local go_sem ↓] ld_rec st_rec
theorem head_c (n f : Nat) (w : World) : Calls Tryd.prog 13 #[.int .u64 (n : Int), .int .u64 (f : Int)] w fun E w' => E = .returned (.agg (rcs (rH n f))) ∧ Below w.heap.size w w' := by
  have H0 := Lib.hid (Loc.one w 28 #[.int .i64 0, .int .u64 0, .int .u8 0, .int .u8 0, .int .u8 0, .int .u64 0, .int .u64 0, .int .u64 0, .int .u8 0])
  go_enter Tryd.func13, Tryd.ntmps13
  go_upto_region 1 with fail
  generalize w.alloc (.cells #[.int .i64 0, .int .u64 0, .int .u8 0, .int .u8 0, .int .u8 0, .int .u64 0, .int .u64 0, .int .u64 0, .int .u8 0] 28) = wa at *
  obtain ⟨w3, s3, h3, q3⟩ := H0.out.stA ty_rec 0 rfl 0 #[.int .i64 3, .int .u64 0, .int .u8 0, .int .u8 0, .int .u8 0, .int .u64 (n : Int), .int .u64 (f : Int), .int .u64 1, .int .u8 0] (cs' := rcs (rH n f)) (by simp [rcs, rH]) (L' := [(w.heap.size, 28, rcs (rH n f))]) rfl (Nat.le_of_ble_eq_true rfl) rfl (by simp [Value.oneCell'])
  have H3 := Lib.hid h3
  clear h3 q3
  go_wp2
  refine bodyPost_ret (ret_struct Tryd.underlying28 ty_rec _ 4 _ Tryd.results13 (H3.out.get 0 rfl) rfl rfl) rfl ?_
  exact ⟨rfl, H3.out.be⟩
theorem own_c (f i : Nat) (w : World) : Calls Tryd.prog 14 #[.int .u64 (f : Int), .int .u8 (i : Int)] w fun E w' => E = .returned (.agg (rcs (rO f i))) ∧ Below w.heap.size w w' := by
  have H0 := Lib.hid (Loc.one w 28 #[.int .i64 0, .int .u64 0, .int .u8 0, .int .u8 0, .int .u8 0, .int .u64 0, .int .u64 0, .int .u64 0, .int .u8 0])
  go_enter Tryd.func14, Tryd.ntmps14
  go_upto_region 1 with fail
  generalize w.alloc (.cells #[.int .i64 0, .int .u64 0, .int .u8 0, .int .u8 0, .int .u8 0, .int .u64 0, .int .u64 0, .int .u64 0, .int .u8 0] 28) = wa at *
  obtain ⟨w3, s3, h3, q3⟩ := H0.out.stA ty_rec 0 rfl 0 #[.int .i64 1, .int .u64 (f : Int), .int .u8 (i : Int), .int .u8 0, .int .u8 0, .int .u64 0, .int .u64 0, .int .u64 0, .int .u8 0] (cs' := rcs (rO f i)) (by simp [rcs, rO]) (L' := [(w.heap.size, 28, rcs (rO f i))]) rfl (Nat.le_of_ble_eq_true rfl) rfl (by simp [Value.oneCell'])
  have H3 := Lib.hid h3
  clear h3 q3
  go_wp2
  refine bodyPost_ret (ret_struct Tryd.underlying28 ty_rec _ 4 _ Tryd.results14 (H3.out.get 0 rfl) rfl rfl) rfl ?_
  exact ⟨rfl, H3.out.be⟩
theorem sure_c (f a b : Nat) (w : World) : Calls Tryd.prog 15 #[.int .u64 (f : Int), .int .u8 (a : Int), .int .u8 (b : Int)] w fun E w' => E = .returned (.agg (rcs (rS f a b))) ∧ Below w.heap.size w w' := by
  have H0 := Lib.hid (Loc.one w 28 #[.int .i64 0, .int .u64 0, .int .u8 0, .int .u8 0, .int .u8 0, .int .u64 0, .int .u64 0, .int .u64 0, .int .u8 0])
  go_enter Tryd.func15, Tryd.ntmps15
  go_upto_region 1 with fail
  generalize w.alloc (.cells #[.int .i64 0, .int .u64 0, .int .u8 0, .int .u8 0, .int .u8 0, .int .u64 0, .int .u64 0, .int .u64 0, .int .u8 0] 28) = wa at *
  obtain ⟨w3, s3, h3, q3⟩ := H0.out.stA ty_rec 0 rfl 0 #[.int .i64 2, .int .u64 (f : Int), .int .u8 0, .int .u8 (a : Int), .int .u8 (b : Int), .int .u64 0, .int .u64 0, .int .u64 0, .int .u8 0] (cs' := rcs (rS f a b)) (by simp [rcs, rS]) (L' := [(w.heap.size, 28, rcs (rS f a b))]) rfl (Nat.le_of_ble_eq_true rfl) rfl (by simp [Value.oneCell'])
  have H3 := Lib.hid h3
  clear h3 q3
  go_wp2
  refine bodyPost_ret (ret_struct Tryd.underlying28 ty_rec _ 6 _ Tryd.results15 (H3.out.get 0 rfl) rfl rfl) rfl ?_
  exact ⟨rfl, H3.out.be⟩
/-- The bytes of records that may be. -/
def Mays (l : List Rc) : Prop := ∀ r ∈ l, r.fit ∧ mayB r = true
theorem bys_take {l : List Rc} {k : Nat} (hk : k < l.length) : bys (l.take (k + 1)) = bys (l.take k) ++ byR (l[k]'hk) := by
  rw [List.take_succ_eq_append_getElem hk, bys_app, bys_one]
theorem pA_of {r : Rc} (h : mayB r = true) : pA r = encR r ∧ pE r = 0 := ⟨if_pos h, if_pos h⟩
theorem putS_of (r : Rc) : putS (encR r) = byR r ∧ putE (encR r) = 0 := by
  have := encR_len r
  unfold putS putE
  rw [if_pos (by omega), if_pos (by omega)]
  exact ⟨rfl, rfl⟩
set_option maxHeartbeats 1000000 in
theorem lput_c (l : List Rc) (ao : Option Addr) (cap : Nat) (w : World) (h : RcsAt w ao l) (hm : Mays l) (hl : l.length ≤ 1000000) (ht : Tab w) :
    Calls Tryd.prog 12 #[.slice ao l.length cap] w fun E w' => E = .returned (.string (str (bys l))) ∧ Below w.heap.size w w' := by
  have H := Lib.hid h
  have HM := Lib.hid hm
  have HT := Lib.hid ht
  have h0 : str [] = ⟨#[]⟩ := rfl
  clear h hm ht
  go_enter Tryd.func12, Tryd.ntmps12
  go_wp2
  go_loopw [3, 4] (fun s i wr => ∃ k : Nat, k ≤ l.length ∧ i = .int .i64 (k : Int) ∧ s = .string (str (bys (l.take k))) ∧ Hid (Below w.heap.size w wr)) (fun _ i _ => l.length - (intOf i).toNat)
  case atStart => exact ⟨0, Nat.zero_le _, rfl, rfl, Below.refl _ _⟩
  case round =>
    obtain ⟨k, hk, rfl, rfl, HB⟩ := hrel
    by_cases hlt : k < l.length
    · have hstep := Lib.hid (bys_take hlt)
      have hbl := bys_len (l.take k)
      have hsz := str_size (bys (l.take k))
      rw [List.length_take] at hbl
      obtain ⟨hf, hmy⟩ := HM.out _ (List.getElem_mem hlt)
      obtain ⟨b, o, rfl, hload⟩ := H.out.one hlt
      generalize l[k]'hlt = r at *
      generalize bys (l.take k) = z at *
      have l1 := (hload _ HB.out).1 _ ty_rec
      obtain ⟨e1, e2⟩ := pA_of hmy
      obtain ⟨e3, e4⟩ := putS_of r
      have HP : Hid (∀ w, Calls Tryd.prog 22 #[.agg (rcs r)] w fun E w' => E = .returned (.tuple #[.string (str (encR r)), .int .i64 0]) ∧ Below w.heap.size w w') := fun w => by
        have := put_c r w hf
        rwa [e1, e2] at this
      have HF : Hid (∀ w, Tab w → Calls Tryd.prog 23 #[.string (str (encR r))] w fun E w' => E = .returned (.tuple #[.string (str (byR r)), .int .i64 0]) ∧ Below w.heap.size w w') := fun w ht => by
        have := fput_c (encR r) w (Nat.le_trans (encR_le r) (by decide)) ht
        rw [e3, e4] at this
        exact this.mono fun E w' ⟨h1, h2⟩ => ⟨h1, below_of_grown h2⟩
      have hrl := byR_hi r
      have hsr := str_size (byR r)
      have hap := str_append z (byR r)
      have HLT := Lib.hid hlt
      have HT1 := Lib.hid (tab_b HT.out HT.out.1 HB.out)
      have hsum : ¬ (9223372036854775807 < (z.length : Int) + ((byR r).length : Int)) := by omega
      clear e1 e2 e3 e4 hf hmy hload
      go_wp2_with fail
      refine (HP.out _).mono ?_
      rintro E w1 ⟨rfl, hb1⟩
      have HB1 := Lib.hid (HB.out.trans (hb1.mono HB.out.size))
      have HT2 := Lib.hid (tab_b HT1.out HT1.out.1 hb1)
      clear hb1 HT1
      go_wp2_with fail
      refine (HF.out _ HT2.out).mono ?_
      rintro E w2 ⟨rfl, hb2⟩
      have HB2 := Lib.hid (HB1.out.trans (hb2.mono HB1.out.size))
      clear hb2 HB1 HP HF HT2 HB l1
      go_wp2
      go_roundw
      case rel => exact ⟨k + 1, HLT.out, by go_num, by rw [hstep.out], HB2⟩
      case measure => have := HLT.out; simp [intOf]; omega
    · obtain rfl : k = l.length := by omega
      rw [List.take_length]
      go_wp2
      go_ret
      exact ⟨rfl, HB.out⟩
end Go.Proofs.YthnelnfefllhpaaDoor
