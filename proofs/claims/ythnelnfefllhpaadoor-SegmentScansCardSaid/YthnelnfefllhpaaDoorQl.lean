/- The document's Take: one contract. Conditions: the text is of 2^40 bytes at most. -/
import Derived.Test.YthnelnfefllhpaaDoorQj
namespace Go.Proofs.YthnelnfefllhpaaDoor
open Go.RowKit
set_option linter.unusedVariables false
set_option linter.unusedSimpArgs false
set_option maxRecDepth 20000

theorem fld_one {l : List UInt8} {a : Nat} (h : a < l.length) : ((str l)[a]'(by rw [str_size]; exact h)).toNat = fld l a 1 := by
  show (l[a]'h).toNat = _
  unfold fld
  rw [List.drop_eq_getElem_cons h, List.take_succ_cons, List.take_zero, un, un]
  omega
theorem mk_fit {k : Int} {f o p q s i e y : Nat} (h : 0 ≤ k ∧ k ≤ 3) (hf : f < 18446744073709551616) (ho : o < 256) (hp : p < 256) (hq : q < 256) (hs : s < 18446744073709551616) (hi : i < 18446744073709551616) (he : e < 18446744073709551616) (hy : y < 256) : Rc.fit ⟨k, f, o, p, q, s, i, e, y⟩ :=
  ⟨by show _ ≤ k; omega, by show k ≤ _; omega, hf, ho, hp, hq, hs, hi, he, hy⟩
theorem fld_lt1 (l : List UInt8) (a : Nat) : fld l a 1 < 256 := un_small a 1
theorem fld_lt8 (l : List UInt8) (a : Nat) : fld l a 8 < 18446744073709551616 := un_small a 8
attribute [local go_sem ↓] ld_dec st_dec
set_option maxHeartbeats 1000000 in
theorem dtake_empty (l : List UInt8) (w : World) (hl : l.length ≤ 1099511627776) (h0 : l = []) :
    Calls Tryd.prog 20 #[.string (str l)] w fun E w' => E = .returned (.tuple #[.agg (rcs rz), .int .i64 10]) ∧ Below w.heap.size w w' := by
  have H0 := Loc.one w 33 #[.int .i64 0, .int .u64 0, .int .u8 0, .int .u8 0, .int .u8 0, .int .u64 0, .int .u64 0, .int .u64 0, .int .u8 0]
  subst h0
  have hemp : (str ([] : List UInt8)).toList.isEmpty = true := by rw [ByteArray.toList_eq, str_data]; rfl
  go_enter Tryd.func20, Tryd.ntmps20
  go_upto_region 1 with fail
  generalize w.alloc (.cells #[.int .i64 0, .int .u64 0, .int .u8 0, .int .u8 0, .int .u8 0, .int .u64 0, .int .u64 0, .int .u64 0, .int .u8 0] 33) = wa at *
  obtain ⟨w9, s9, H1, q9⟩ := H0.stA ty_dec 0 rfl 0 #[.int .i64 0, .int .u64 0, .int .u8 0, .int .u8 0, .int .u8 0, .int .u64 0, .int .u64 0, .int .u64 0, .int .u8 0] (cs' := rcs rz) rfl (L' := [(w.heap.size, 33, rcs rz)]) rfl (Nat.le_of_ble_eq_true rfl) rfl rfl
  clear q9
  go_wp2
  refine bodyPost_ret (shut_rec _ 10 _ Tryd.results20 ty_dec (H1.get 0 rfl) rfl rfl rfl) rfl ?_
  exact ⟨rfl, H1.be⟩
set_option maxHeartbeats 1000000 in
theorem dtake_none (l : List UInt8) (w : World) (hl : l.length ≤ 1099511627776) (h0 : 0 < l.length) (hk : fld l 0 1 < 1 ∨ 3 < fld l 0 1) :
    Calls Tryd.prog 20 #[.string (str l)] w fun E w' => E = .returned (.tuple #[.agg (rcs rz), .int .i64 4]) ∧ Below w.heap.size w w' := by
  have H0 := Loc.one w 33 #[.int .i64 0, .int .u64 0, .int .u8 0, .int .u8 0, .int .u8 0, .int .u64 0, .int .u64 0, .int .u64 0, .int .u8 0]
  have hs := str_size l
  have hne : l ≠ [] := fun e => by rw [e] at h0; exact absurd h0 (by decide)
  have hemp : (str l).toList.isEmpty = false := by rw [ByteArray.toList_eq, str_data]; cases l with | nil => exact absurd rfl hne | cons b r => rfl
  have hp : 0 < l.length := h0
  have e0 := fld_one (l := l) (a := 0) hp
  go_enter Tryd.func20, Tryd.ntmps20
  go_upto_region 1 with fail
  generalize w.alloc (.cells #[.int .i64 0, .int .u64 0, .int .u8 0, .int .u8 0, .int .u8 0, .int .u64 0, .int .u64 0, .int .u64 0, .int .u8 0] 33) = wa at *
  obtain ⟨w9, s9, H1, q9⟩ := H0.stA ty_dec 0 rfl 0 #[.int .i64 0, .int .u64 0, .int .u8 0, .int .u8 0, .int .u8 0, .int .u64 0, .int .u64 0, .int .u64 0, .int .u8 0] (cs' := rcs rz) rfl (L' := [(w.heap.size, 33, rcs rz)]) rfl (Nat.le_of_ble_eq_true rfl) rfl rfl
  clear q9
  have h256 := fld_lt1 l 0
  generalize fld l 0 1 = k at *
  clear hne hl
  rcases hk with hk | hk
  · obtain rfl : k = 0 := by omega
    go_wp2
    refine bodyPost_ret (shut_rec _ 4 _ Tryd.results20 ty_dec (H1.get 0 rfl) rfl rfl rfl) rfl ?_
    exact ⟨rfl, H1.be⟩
  · have hk2 : ¬ k < 1 := by omega
    have hk3 : ¬ (k : Int) < 1 := by omega
    go_wp2
    refine bodyPost_ret (shut_rec _ 4 _ Tryd.results20 ty_dec (H1.get 0 rfl) rfl rfl rfl) rfl ?_
    exact ⟨rfl, H1.be⟩
set_option maxHeartbeats 1000000 in
theorem dtake_short1 (l : List UInt8) (w : World) (hl : l.length ≤ 1099511627776) (h0 : 0 < l.length) (hk : fld l 0 1 = 1) (hL : l.length < 10) :
    Calls Tryd.prog 20 #[.string (str l)] w fun E w' => E = .returned (.tuple #[.agg (rcs rz), .int .i64 10]) ∧ Below w.heap.size w w' := by
  have H0 := Loc.one w 33 #[.int .i64 0, .int .u64 0, .int .u8 0, .int .u8 0, .int .u8 0, .int .u64 0, .int .u64 0, .int .u64 0, .int .u8 0]
  have hs := str_size l
  have hne : l ≠ [] := fun e => by rw [e] at h0; exact absurd h0 (by decide)
  have hemp : (str l).toList.isEmpty = false := by rw [ByteArray.toList_eq, str_data]; cases l with | nil => exact absurd rfl hne | cons b r => rfl
  have hp : 0 < l.length := h0
  have e0 := fld_one (l := l) (a := 0) hp
  go_enter Tryd.func20, Tryd.ntmps20
  go_upto_region 1 with fail
  generalize w.alloc (.cells #[.int .i64 0, .int .u64 0, .int .u8 0, .int .u8 0, .int .u8 0, .int .u64 0, .int .u64 0, .int .u64 0, .int .u8 0] 33) = wa at *
  have HLG := fun w => lng_c 1 w (by decide)
  rw [show lng 1 = 10 from rfl] at HLG
  rw [hk] at e0
  clear hne hk
  go_wp2_with fail
  refine (HLG wa).mono ?_
  rintro E w1 ⟨rfl, hb1⟩
  have H1 := H0.to hb1
  obtain ⟨w9, s9, H2, q9⟩ := H1.stA ty_dec 0 rfl 0 #[.int .i64 0, .int .u64 0, .int .u8 0, .int .u8 0, .int .u8 0, .int .u64 0, .int .u64 0, .int .u64 0, .int .u8 0] (cs' := rcs rz) rfl (L' := [(w.heap.size, 33, rcs rz)]) rfl (Nat.le_of_ble_eq_true rfl) rfl rfl
  clear q9
  clear HLG H0 H1
  go_wp2
  refine bodyPost_ret (shut_rec _ 10 _ Tryd.results20 ty_dec (H2.get 0 rfl) rfl rfl rfl) rfl ?_
  exact ⟨rfl, H2.be⟩
set_option maxHeartbeats 1000000 in
theorem dtake_long1 (l : List UInt8) (w : World) (hl : l.length ≤ 1099511627776) (h0 : 0 < l.length) (hk : fld l 0 1 = 1) (hL : 10 < l.length) :
    Calls Tryd.prog 20 #[.string (str l)] w fun E w' => E = .returned (.tuple #[.agg (rcs rz), .int .i64 4]) ∧ Below w.heap.size w w' := by
  have H0 := Loc.one w 33 #[.int .i64 0, .int .u64 0, .int .u8 0, .int .u8 0, .int .u8 0, .int .u64 0, .int .u64 0, .int .u64 0, .int .u8 0]
  have hs := str_size l
  have hne : l ≠ [] := fun e => by rw [e] at h0; exact absurd h0 (by decide)
  have hemp : (str l).toList.isEmpty = false := by rw [ByteArray.toList_eq, str_data]; cases l with | nil => exact absurd rfl hne | cons b r => rfl
  have hp : 0 < l.length := h0
  have e0 := fld_one (l := l) (a := 0) hp
  go_enter Tryd.func20, Tryd.ntmps20
  go_upto_region 1 with fail
  generalize w.alloc (.cells #[.int .i64 0, .int .u64 0, .int .u8 0, .int .u8 0, .int .u8 0, .int .u64 0, .int .u64 0, .int .u64 0, .int .u8 0] 33) = wa at *
  have HLG := fun w => lng_c 1 w (by decide)
  rw [show lng 1 = 10 from rfl] at HLG
  rw [hk] at e0
  clear hne hk
  have hL2 : ¬ l.length < 10 := by omega
  go_wp2_with fail
  refine (HLG wa).mono ?_
  rintro E w1 ⟨rfl, hb1⟩
  have H1 := H0.to hb1
  go_wp2_with fail
  refine (HLG w1).mono ?_
  rintro E w2 ⟨rfl, hb2⟩
  have H3 := H1.to hb2
  obtain ⟨w9, s9, H2, q9⟩ := H3.stA ty_dec 0 rfl 0 #[.int .i64 0, .int .u64 0, .int .u8 0, .int .u8 0, .int .u8 0, .int .u64 0, .int .u64 0, .int .u64 0, .int .u8 0] (cs' := rcs rz) rfl (L' := [(w.heap.size, 33, rcs rz)]) rfl (Nat.le_of_ble_eq_true rfl) rfl rfl
  clear q9
  clear HLG H0 H1 H3
  go_wp2
  refine bodyPost_ret (shut_rec _ 4 _ Tryd.results20 ty_dec (H2.get 0 rfl) rfl rfl rfl) rfl ?_
  exact ⟨rfl, H2.be⟩
set_option maxHeartbeats 1000000 in
theorem dtake_short2 (l : List UInt8) (w : World) (hl : l.length ≤ 1099511627776) (h0 : 0 < l.length) (hk : fld l 0 1 = 2) (hL : l.length < 11) :
    Calls Tryd.prog 20 #[.string (str l)] w fun E w' => E = .returned (.tuple #[.agg (rcs rz), .int .i64 10]) ∧ Below w.heap.size w w' := by
  have H0 := Loc.one w 33 #[.int .i64 0, .int .u64 0, .int .u8 0, .int .u8 0, .int .u8 0, .int .u64 0, .int .u64 0, .int .u64 0, .int .u8 0]
  have hs := str_size l
  have hne : l ≠ [] := fun e => by rw [e] at h0; exact absurd h0 (by decide)
  have hemp : (str l).toList.isEmpty = false := by rw [ByteArray.toList_eq, str_data]; cases l with | nil => exact absurd rfl hne | cons b r => rfl
  have hp : 0 < l.length := h0
  have e0 := fld_one (l := l) (a := 0) hp
  go_enter Tryd.func20, Tryd.ntmps20
  go_upto_region 1 with fail
  generalize w.alloc (.cells #[.int .i64 0, .int .u64 0, .int .u8 0, .int .u8 0, .int .u8 0, .int .u64 0, .int .u64 0, .int .u64 0, .int .u8 0] 33) = wa at *
  have HLG := fun w => lng_c 2 w (by decide)
  rw [show lng 2 = 11 from rfl] at HLG
  rw [hk] at e0
  clear hne hk
  go_wp2_with fail
  refine (HLG wa).mono ?_
  rintro E w1 ⟨rfl, hb1⟩
  have H1 := H0.to hb1
  obtain ⟨w9, s9, H2, q9⟩ := H1.stA ty_dec 0 rfl 0 #[.int .i64 0, .int .u64 0, .int .u8 0, .int .u8 0, .int .u8 0, .int .u64 0, .int .u64 0, .int .u64 0, .int .u8 0] (cs' := rcs rz) rfl (L' := [(w.heap.size, 33, rcs rz)]) rfl (Nat.le_of_ble_eq_true rfl) rfl rfl
  clear q9
  clear HLG H0 H1
  go_wp2
  refine bodyPost_ret (shut_rec _ 10 _ Tryd.results20 ty_dec (H2.get 0 rfl) rfl rfl rfl) rfl ?_
  exact ⟨rfl, H2.be⟩
set_option maxHeartbeats 1000000 in
theorem dtake_long2 (l : List UInt8) (w : World) (hl : l.length ≤ 1099511627776) (h0 : 0 < l.length) (hk : fld l 0 1 = 2) (hL : 11 < l.length) :
    Calls Tryd.prog 20 #[.string (str l)] w fun E w' => E = .returned (.tuple #[.agg (rcs rz), .int .i64 4]) ∧ Below w.heap.size w w' := by
  have H0 := Loc.one w 33 #[.int .i64 0, .int .u64 0, .int .u8 0, .int .u8 0, .int .u8 0, .int .u64 0, .int .u64 0, .int .u64 0, .int .u8 0]
  have hs := str_size l
  have hne : l ≠ [] := fun e => by rw [e] at h0; exact absurd h0 (by decide)
  have hemp : (str l).toList.isEmpty = false := by rw [ByteArray.toList_eq, str_data]; cases l with | nil => exact absurd rfl hne | cons b r => rfl
  have hp : 0 < l.length := h0
  have e0 := fld_one (l := l) (a := 0) hp
  go_enter Tryd.func20, Tryd.ntmps20
  go_upto_region 1 with fail
  generalize w.alloc (.cells #[.int .i64 0, .int .u64 0, .int .u8 0, .int .u8 0, .int .u8 0, .int .u64 0, .int .u64 0, .int .u64 0, .int .u8 0] 33) = wa at *
  have HLG := fun w => lng_c 2 w (by decide)
  rw [show lng 2 = 11 from rfl] at HLG
  rw [hk] at e0
  clear hne hk
  have hL2 : ¬ l.length < 11 := by omega
  go_wp2_with fail
  refine (HLG wa).mono ?_
  rintro E w1 ⟨rfl, hb1⟩
  have H1 := H0.to hb1
  go_wp2_with fail
  refine (HLG w1).mono ?_
  rintro E w2 ⟨rfl, hb2⟩
  have H3 := H1.to hb2
  obtain ⟨w9, s9, H2, q9⟩ := H3.stA ty_dec 0 rfl 0 #[.int .i64 0, .int .u64 0, .int .u8 0, .int .u8 0, .int .u8 0, .int .u64 0, .int .u64 0, .int .u64 0, .int .u8 0] (cs' := rcs rz) rfl (L' := [(w.heap.size, 33, rcs rz)]) rfl (Nat.le_of_ble_eq_true rfl) rfl rfl
  clear q9
  clear HLG H0 H1 H3
  go_wp2
  refine bodyPost_ret (shut_rec _ 4 _ Tryd.results20 ty_dec (H2.get 0 rfl) rfl rfl rfl) rfl ?_
  exact ⟨rfl, H2.be⟩
set_option maxHeartbeats 1000000 in
theorem dtake_short3 (l : List UInt8) (w : World) (hl : l.length ≤ 1099511627776) (h0 : 0 < l.length) (hk : fld l 0 1 = 3) (hL : l.length < 26) :
    Calls Tryd.prog 20 #[.string (str l)] w fun E w' => E = .returned (.tuple #[.agg (rcs rz), .int .i64 10]) ∧ Below w.heap.size w w' := by
  have H0 := Loc.one w 33 #[.int .i64 0, .int .u64 0, .int .u8 0, .int .u8 0, .int .u8 0, .int .u64 0, .int .u64 0, .int .u64 0, .int .u8 0]
  have hs := str_size l
  have hne : l ≠ [] := fun e => by rw [e] at h0; exact absurd h0 (by decide)
  have hemp : (str l).toList.isEmpty = false := by rw [ByteArray.toList_eq, str_data]; cases l with | nil => exact absurd rfl hne | cons b r => rfl
  have hp : 0 < l.length := h0
  have e0 := fld_one (l := l) (a := 0) hp
  go_enter Tryd.func20, Tryd.ntmps20
  go_upto_region 1 with fail
  generalize w.alloc (.cells #[.int .i64 0, .int .u64 0, .int .u8 0, .int .u8 0, .int .u8 0, .int .u64 0, .int .u64 0, .int .u64 0, .int .u8 0] 33) = wa at *
  have HLG := fun w => lng_c 3 w (by decide)
  rw [show lng 3 = 26 from rfl] at HLG
  rw [hk] at e0
  clear hne hk
  go_wp2_with fail
  refine (HLG wa).mono ?_
  rintro E w1 ⟨rfl, hb1⟩
  have H1 := H0.to hb1
  obtain ⟨w9, s9, H2, q9⟩ := H1.stA ty_dec 0 rfl 0 #[.int .i64 0, .int .u64 0, .int .u8 0, .int .u8 0, .int .u8 0, .int .u64 0, .int .u64 0, .int .u64 0, .int .u8 0] (cs' := rcs rz) rfl (L' := [(w.heap.size, 33, rcs rz)]) rfl (Nat.le_of_ble_eq_true rfl) rfl rfl
  clear q9
  clear HLG H0 H1
  go_wp2
  refine bodyPost_ret (shut_rec _ 10 _ Tryd.results20 ty_dec (H2.get 0 rfl) rfl rfl rfl) rfl ?_
  exact ⟨rfl, H2.be⟩
set_option maxHeartbeats 1000000 in
theorem dtake_long3 (l : List UInt8) (w : World) (hl : l.length ≤ 1099511627776) (h0 : 0 < l.length) (hk : fld l 0 1 = 3) (hL : 26 < l.length) :
    Calls Tryd.prog 20 #[.string (str l)] w fun E w' => E = .returned (.tuple #[.agg (rcs rz), .int .i64 4]) ∧ Below w.heap.size w w' := by
  have H0 := Loc.one w 33 #[.int .i64 0, .int .u64 0, .int .u8 0, .int .u8 0, .int .u8 0, .int .u64 0, .int .u64 0, .int .u64 0, .int .u8 0]
  have hs := str_size l
  have hne : l ≠ [] := fun e => by rw [e] at h0; exact absurd h0 (by decide)
  have hemp : (str l).toList.isEmpty = false := by rw [ByteArray.toList_eq, str_data]; cases l with | nil => exact absurd rfl hne | cons b r => rfl
  have hp : 0 < l.length := h0
  have e0 := fld_one (l := l) (a := 0) hp
  go_enter Tryd.func20, Tryd.ntmps20
  go_upto_region 1 with fail
  generalize w.alloc (.cells #[.int .i64 0, .int .u64 0, .int .u8 0, .int .u8 0, .int .u8 0, .int .u64 0, .int .u64 0, .int .u64 0, .int .u8 0] 33) = wa at *
  have HLG := fun w => lng_c 3 w (by decide)
  rw [show lng 3 = 26 from rfl] at HLG
  rw [hk] at e0
  clear hne hk
  have hL2 : ¬ l.length < 26 := by omega
  go_wp2_with fail
  refine (HLG wa).mono ?_
  rintro E w1 ⟨rfl, hb1⟩
  have H1 := H0.to hb1
  go_wp2_with fail
  refine (HLG w1).mono ?_
  rintro E w2 ⟨rfl, hb2⟩
  have H3 := H1.to hb2
  obtain ⟨w9, s9, H2, q9⟩ := H3.stA ty_dec 0 rfl 0 #[.int .i64 0, .int .u64 0, .int .u8 0, .int .u8 0, .int .u8 0, .int .u64 0, .int .u64 0, .int .u64 0, .int .u8 0] (cs' := rcs rz) rfl (L' := [(w.heap.size, 33, rcs rz)]) rfl (Nat.le_of_ble_eq_true rfl) rfl rfl
  clear q9
  clear HLG H0 H1 H3
  go_wp2
  refine bodyPost_ret (shut_rec _ 4 _ Tryd.results20 ty_dec (H2.get 0 rfl) rfl rfl rfl) rfl ?_
  exact ⟨rfl, H2.be⟩
attribute [local go_sem ↓] st_pair st_input st_u64 st_u8
set_option maxHeartbeats 4000000 in
theorem dtake_full1 (l : List UInt8) (w : World) (h0 : 0 < l.length) (hk : fld l 0 1 = 1) (hL : l.length = 10) (Q : Ending → World → Prop)
    (HQ1 : Hid (mayB ⟨1, fld l 1 8, fld l 9 1, 0, 0, 0, 0, 0, 0⟩ = true → ∀ w', Below w.heap.size w w' → Q (.returned (.tuple #[.agg (rcs ⟨1, fld l 1 8, fld l 9 1, 0, 0, 0, 0, 0, 0⟩), .int .i64 0])) w')) (HQ2 : Hid (mayB ⟨1, fld l 1 8, fld l 9 1, 0, 0, 0, 0, 0, 0⟩ = false → ∀ w', Below w.heap.size w w' → Q (.returned (.tuple #[.agg (rcs rz), .int .i64 4])) w')) :
    Calls Tryd.prog 20 #[.string (str l)] w Q := by
  have H0 := Loc.one w 33 #[.int .i64 0, .int .u64 0, .int .u8 0, .int .u8 0, .int .u8 0, .int .u64 0, .int .u64 0, .int .u64 0, .int .u8 0]
  have hl : l.length ≤ 1099511627776 := by omega
  have HMAY := fun w => may_c ⟨1, fld l 1 8, fld l 9 1, 0, 0, 0, 0, 0, 0⟩ w (mk_fit (by decide) (fld_lt8 _ _) (fld_lt1 _ _) (by decide) (by decide) (by decide) (by decide) (by decide) (by decide))
  have Nf := fun w => number_c l 1 w (by omega) hl
  have Lf := fld_lt8 l 1
  have Bo := fld_one (l := l) (a := 9) (by omega)
  have Lo := fld_lt1 l 9
  have hs := str_size l
  have hne : l ≠ [] := fun e => by rw [e] at h0; exact absurd h0 (by decide)
  have hemp : (str l).toList.isEmpty = false := by rw [ByteArray.toList_eq, str_data]; cases l with | nil => exact absurd rfl hne | cons b r => rfl
  have hp : 0 < l.length := h0
  have e0 := fld_one (l := l) (a := 0) hp
  go_enter Tryd.func20, Tryd.ntmps20
  go_upto_region 1 with fail
  generalize w.alloc (.cells #[.int .i64 0, .int .u64 0, .int .u8 0, .int .u8 0, .int .u8 0, .int .u64 0, .int .u64 0, .int .u64 0, .int .u8 0] 33) = wa at *
  have HLG := fun w => lng_c 1 w (by decide)
  rw [show lng 1 = 10 from rfl] at HLG
  rw [hk] at e0
  clear hne hk
  generalize fld l 1 8 = f at *
  generalize fld l 9 1 = o at *
  have HMAY := Lib.hid HMAY
  go_wp2_with fail
  refine (HLG wa).mono ?_
  rintro E w1 ⟨rfl, hb1⟩
  have H1 := H0.to hb1
  clear H0
  go_wp2_with fail
  refine (HLG w1).mono ?_
  rintro E w2 ⟨rfl, hb2⟩
  have H2 := H1.to hb2
  clear H1 HLG
  obtain ⟨g5, w3, z3, s3, H3, q3⟩ := H2.newA ty_dec #[.int .i64 0, .int .u64 0, .int .u8 0, .int .u8 0, .int .u8 0, .int .u64 0, .int .u64 0, .int .u64 0, .int .u8 0] #[.int .i64 1, .int .u64 0, .int .u8 0, .int .u8 0, .int .u8 0, .int .u64 0, .int .u64 0, .int .u64 0, .int .u8 0] rfl rfl rfl
  replace H3 : Loc w.heap.size w w3 [(w.heap.size, 33, #[.int .i64 0, .int .u64 0, .int .u8 0, .int .u8 0, .int .u8 0, .int .u64 0, .int .u64 0, .int .u64 0, .int .u8 0]), (g5, 33, #[.int .i64 1, .int .u64 0, .int .u8 0, .int .u8 0, .int .u8 0, .int .u64 0, .int .u64 0, .int .u64 0, .int .u8 0])] := H3
  clear q3 H2
  go_wp2_with fail
  clear s3 z3
  refine (Nf w3).mono ?_
  rintro E w' ⟨rfl, rfl⟩
  obtain ⟨w4, s4, H4, q4⟩ := H3.stO ty_u64 1 rfl 1 (.int .u64 (f : Int)) (cs' := #[.int .i64 1, .int .u64 (f : Int), .int .u8 0, .int .u8 0, .int .u8 0, .int .u64 0, .int .u64 0, .int .u64 0, .int .u8 0]) rfl (L' := [(w.heap.size, 33, #[.int .i64 0, .int .u64 0, .int .u8 0, .int .u8 0, .int .u8 0, .int .u64 0, .int .u64 0, .int .u64 0, .int .u8 0]), (g5, 33, #[.int .i64 1, .int .u64 (f : Int), .int .u8 0, .int .u8 0, .int .u8 0, .int .u64 0, .int .u64 0, .int .u64 0, .int .u8 0])]) rfl (Nat.le_of_ble_eq_true rfl) rfl rfl
  clear q4 H3
  obtain ⟨w5, s5, H5, q5⟩ := H4.stO ty_input 1 rfl 2 (.int .u8 (o : Int)) (cs' := #[.int .i64 1, .int .u64 (f : Int), .int .u8 (o : Int), .int .u8 0, .int .u8 0, .int .u64 0, .int .u64 0, .int .u64 0, .int .u8 0]) rfl (L' := [(w.heap.size, 33, #[.int .i64 0, .int .u64 0, .int .u8 0, .int .u8 0, .int .u8 0, .int .u64 0, .int .u64 0, .int .u64 0, .int .u8 0]), (g5, 33, #[.int .i64 1, .int .u64 (f : Int), .int .u8 (o : Int), .int .u8 0, .int .u8 0, .int .u64 0, .int .u64 0, .int .u64 0, .int .u8 0])]) rfl (Nat.le_of_ble_eq_true rfl) rfl rfl
  clear q5 H4
  replace H5 : Loc w.heap.size w w5 [(w.heap.size, 33, #[.int .i64 0, .int .u64 0, .int .u8 0, .int .u8 0, .int .u8 0, .int .u64 0, .int .u64 0, .int .u64 0, .int .u8 0]), (g5, 33, rcs ⟨1, f, o, 0, 0, 0, 0, 0, 0⟩)] := H5
  have lv := H5.ldA ty_dec 1 rfl 0 (vs := rcs ⟨1, f, o, 0, 0, 0, 0, 0, 0⟩) rfl (Nat.le_of_ble_eq_true rfl)
  go_wp2_with fail
  refine (HMAY.out _).mono ?_
  rintro E w8 ⟨rfl, hb8⟩
  have H8 := H5.to hb8
  clear s5 lv H5
  cases hm : mayB ⟨1, f, o, 0, 0, 0, 0, 0, 0⟩
  · obtain ⟨w9, s9, H9, q9⟩ := H8.stA ty_dec 0 rfl 0 #[.int .i64 0, .int .u64 0, .int .u8 0, .int .u8 0, .int .u8 0, .int .u64 0, .int .u64 0, .int .u64 0, .int .u8 0] (cs' := rcs rz) rfl (L' := [(w.heap.size, 33, rcs rz), (g5, 33, rcs ⟨1, f, o, 0, 0, 0, 0, 0, 0⟩)]) rfl (Nat.le_of_ble_eq_true rfl) rfl rfl
    clear q9
    have HF := Lib.hid (HQ2.out hm)
    go_wp2
    refine bodyPost_ret (shut_rec _ 4 _ Tryd.results20 ty_dec (H9.get 0 rfl) rfl rfl rfl) rfl ?_
    exact HF.out _ H9.be
  · have lw := H8.ldA ty_dec 1 rfl 0 (vs := rcs ⟨1, f, o, 0, 0, 0, 0, 0, 0⟩) rfl (Nat.le_of_ble_eq_true rfl)
    obtain ⟨w9, s9, H9, q9⟩ := H8.stA ty_dec 0 rfl 0 (rcs ⟨1, f, o, 0, 0, 0, 0, 0, 0⟩) (cs' := rcs ⟨1, f, o, 0, 0, 0, 0, 0, 0⟩) rfl (L' := [(w.heap.size, 33, rcs ⟨1, f, o, 0, 0, 0, 0, 0, 0⟩), (g5, 33, rcs ⟨1, f, o, 0, 0, 0, 0, 0, 0⟩)]) rfl (Nat.le_of_ble_eq_true rfl) rfl rfl
    clear q9
    have HF := Lib.hid (HQ1.out hm)
    go_wp2
    refine bodyPost_ret (shut_rec _ 0 _ Tryd.results20 ty_dec (H9.get 0 rfl) rfl rfl rfl) rfl ?_
    exact HF.out _ H9.be
set_option maxHeartbeats 4000000 in
theorem dtake_full2 (l : List UInt8) (w : World) (h0 : 0 < l.length) (hk : fld l 0 1 = 2) (hL : l.length = 11) (Q : Ending → World → Prop)
    (HQ1 : Hid (mayB ⟨2, fld l 1 8, 0, fld l 9 1, fld l 10 1, 0, 0, 0, 0⟩ = true → ∀ w', Below w.heap.size w w' → Q (.returned (.tuple #[.agg (rcs ⟨2, fld l 1 8, 0, fld l 9 1, fld l 10 1, 0, 0, 0, 0⟩), .int .i64 0])) w')) (HQ2 : Hid (mayB ⟨2, fld l 1 8, 0, fld l 9 1, fld l 10 1, 0, 0, 0, 0⟩ = false → ∀ w', Below w.heap.size w w' → Q (.returned (.tuple #[.agg (rcs rz), .int .i64 4])) w')) :
    Calls Tryd.prog 20 #[.string (str l)] w Q := by
  have H0 := Loc.one w 33 #[.int .i64 0, .int .u64 0, .int .u8 0, .int .u8 0, .int .u8 0, .int .u64 0, .int .u64 0, .int .u64 0, .int .u8 0]
  have hl : l.length ≤ 1099511627776 := by omega
  have HMAY := fun w => may_c ⟨2, fld l 1 8, 0, fld l 9 1, fld l 10 1, 0, 0, 0, 0⟩ w (mk_fit (by decide) (fld_lt8 _ _) (by decide) (fld_lt1 _ _) (fld_lt1 _ _) (by decide) (by decide) (by decide) (by decide))
  have Nf := fun w => number_c l 1 w (by omega) hl
  have Lf := fld_lt8 l 1
  have Bp := fld_one (l := l) (a := 9) (by omega)
  have Lp := fld_lt1 l 9
  have Bq := fld_one (l := l) (a := 10) (by omega)
  have Lq := fld_lt1 l 10
  have hs := str_size l
  have hne : l ≠ [] := fun e => by rw [e] at h0; exact absurd h0 (by decide)
  have hemp : (str l).toList.isEmpty = false := by rw [ByteArray.toList_eq, str_data]; cases l with | nil => exact absurd rfl hne | cons b r => rfl
  have hp : 0 < l.length := h0
  have e0 := fld_one (l := l) (a := 0) hp
  go_enter Tryd.func20, Tryd.ntmps20
  go_upto_region 1 with fail
  generalize w.alloc (.cells #[.int .i64 0, .int .u64 0, .int .u8 0, .int .u8 0, .int .u8 0, .int .u64 0, .int .u64 0, .int .u64 0, .int .u8 0] 33) = wa at *
  have HLG := fun w => lng_c 2 w (by decide)
  rw [show lng 2 = 11 from rfl] at HLG
  rw [hk] at e0
  clear hne hk
  generalize fld l 1 8 = f at *
  generalize fld l 9 1 = p at *
  generalize fld l 10 1 = q at *
  have HMAY := Lib.hid HMAY
  go_wp2_with fail
  refine (HLG wa).mono ?_
  rintro E w1 ⟨rfl, hb1⟩
  have H1 := H0.to hb1
  clear H0
  go_wp2_with fail
  refine (HLG w1).mono ?_
  rintro E w2 ⟨rfl, hb2⟩
  have H2 := H1.to hb2
  clear H1 HLG
  obtain ⟨g5, w3, z3, s3, H3, q3⟩ := H2.newA ty_dec #[.int .i64 0, .int .u64 0, .int .u8 0, .int .u8 0, .int .u8 0, .int .u64 0, .int .u64 0, .int .u64 0, .int .u8 0] #[.int .i64 2, .int .u64 0, .int .u8 0, .int .u8 0, .int .u8 0, .int .u64 0, .int .u64 0, .int .u64 0, .int .u8 0] rfl rfl rfl
  replace H3 : Loc w.heap.size w w3 [(w.heap.size, 33, #[.int .i64 0, .int .u64 0, .int .u8 0, .int .u8 0, .int .u8 0, .int .u64 0, .int .u64 0, .int .u64 0, .int .u8 0]), (g5, 33, #[.int .i64 2, .int .u64 0, .int .u8 0, .int .u8 0, .int .u8 0, .int .u64 0, .int .u64 0, .int .u64 0, .int .u8 0])] := H3
  clear q3 H2
  go_wp2_with fail
  clear s3 z3
  refine (Nf w3).mono ?_
  rintro E w' ⟨rfl, rfl⟩
  obtain ⟨w4, s4, H4, q4⟩ := H3.stO ty_u64 1 rfl 1 (.int .u64 (f : Int)) (cs' := #[.int .i64 2, .int .u64 (f : Int), .int .u8 0, .int .u8 0, .int .u8 0, .int .u64 0, .int .u64 0, .int .u64 0, .int .u8 0]) rfl (L' := [(w.heap.size, 33, #[.int .i64 0, .int .u64 0, .int .u8 0, .int .u8 0, .int .u8 0, .int .u64 0, .int .u64 0, .int .u64 0, .int .u8 0]), (g5, 33, #[.int .i64 2, .int .u64 (f : Int), .int .u8 0, .int .u8 0, .int .u8 0, .int .u64 0, .int .u64 0, .int .u64 0, .int .u8 0])]) rfl (Nat.le_of_ble_eq_true rfl) rfl rfl
  clear q4 H3
  go_upto_region 21 with fail
  clear s4
  obtain ⟨wd, hwd⟩ : ∃ wd, ({ w4 with drawn := w4.drawn + 1 } : World) = wd := ⟨_, rfl⟩
  have HD : Loc w.heap.size w wd [(w.heap.size, 33, #[.int .i64 0, .int .u64 0, .int .u8 0, .int .u8 0, .int .u8 0, .int .u64 0, .int .u64 0, .int .u64 0, .int .u8 0]), (g5, 33, #[.int .i64 2, .int .u64 (f : Int), .int .u8 0, .int .u8 0, .int .u8 0, .int .u64 0, .int .u64 0, .int .u64 0, .int .u8 0])] := by rw [← hwd]; exact H4.drew
  obtain ⟨w5, s5, H5, q5⟩ := HD.stA ty_pair 1 rfl 3 #[.int .u8 (p : Int), .int .u8 (q : Int)] (cs' := #[.int .i64 2, .int .u64 (f : Int), .int .u8 0, .int .u8 (p : Int), .int .u8 (q : Int), .int .u64 0, .int .u64 0, .int .u64 0, .int .u8 0]) rfl (L' := [(w.heap.size, 33, #[.int .i64 0, .int .u64 0, .int .u8 0, .int .u8 0, .int .u8 0, .int .u64 0, .int .u64 0, .int .u64 0, .int .u8 0]), (g5, 33, #[.int .i64 2, .int .u64 (f : Int), .int .u8 0, .int .u8 (p : Int), .int .u8 (q : Int), .int .u64 0, .int .u64 0, .int .u64 0, .int .u8 0])]) rfl (Nat.le_of_ble_eq_true rfl) rfl rfl
  clear q5 H4 HD
  refine wp_region_still_tail 6 (by kernel_rfl) (by kernel_rfl) ?_
  simp only [List.take_succ_cons, List.take_zero, List.drop_succ_cons, List.drop_zero]
  rw [hwd]
  clear hwd
  repeat still_step
  refine wpStill_nil ?_
  replace H5 : Loc w.heap.size w w5 [(w.heap.size, 33, #[.int .i64 0, .int .u64 0, .int .u8 0, .int .u8 0, .int .u8 0, .int .u64 0, .int .u64 0, .int .u64 0, .int .u8 0]), (g5, 33, rcs ⟨2, f, 0, p, q, 0, 0, 0, 0⟩)] := H5
  have lv := H5.ldA ty_dec 1 rfl 0 (vs := rcs ⟨2, f, 0, p, q, 0, 0, 0, 0⟩) rfl (Nat.le_of_ble_eq_true rfl)
  go_wp2_with fail
  refine (HMAY.out _).mono ?_
  rintro E w8 ⟨rfl, hb8⟩
  have H8 := H5.to hb8
  clear s5 lv H5
  cases hm : mayB ⟨2, f, 0, p, q, 0, 0, 0, 0⟩
  · obtain ⟨w9, s9, H9, q9⟩ := H8.stA ty_dec 0 rfl 0 #[.int .i64 0, .int .u64 0, .int .u8 0, .int .u8 0, .int .u8 0, .int .u64 0, .int .u64 0, .int .u64 0, .int .u8 0] (cs' := rcs rz) rfl (L' := [(w.heap.size, 33, rcs rz), (g5, 33, rcs ⟨2, f, 0, p, q, 0, 0, 0, 0⟩)]) rfl (Nat.le_of_ble_eq_true rfl) rfl rfl
    clear q9
    have HF := Lib.hid (HQ2.out hm)
    go_wp2
    refine bodyPost_ret (shut_rec _ 4 _ Tryd.results20 ty_dec (H9.get 0 rfl) rfl rfl rfl) rfl ?_
    exact HF.out _ H9.be
  · have lw := H8.ldA ty_dec 1 rfl 0 (vs := rcs ⟨2, f, 0, p, q, 0, 0, 0, 0⟩) rfl (Nat.le_of_ble_eq_true rfl)
    obtain ⟨w9, s9, H9, q9⟩ := H8.stA ty_dec 0 rfl 0 (rcs ⟨2, f, 0, p, q, 0, 0, 0, 0⟩) (cs' := rcs ⟨2, f, 0, p, q, 0, 0, 0, 0⟩) rfl (L' := [(w.heap.size, 33, rcs ⟨2, f, 0, p, q, 0, 0, 0, 0⟩), (g5, 33, rcs ⟨2, f, 0, p, q, 0, 0, 0, 0⟩)]) rfl (Nat.le_of_ble_eq_true rfl) rfl rfl
    clear q9
    have HF := Lib.hid (HQ1.out hm)
    go_wp2
    refine bodyPost_ret (shut_rec _ 0 _ Tryd.results20 ty_dec (H9.get 0 rfl) rfl rfl rfl) rfl ?_
    exact HF.out _ H9.be
set_option maxHeartbeats 4000000 in
theorem dtake_full3 (l : List UInt8) (w : World) (h0 : 0 < l.length) (hk : fld l 0 1 = 3) (hL : l.length = 26) (Q : Ending → World → Prop)
    (HQ1 : Hid (mayB ⟨3, 0, 0, 0, 0, fld l 1 8, fld l 9 8, fld l 17 8, fld l 25 1⟩ = true → ∀ w', Below w.heap.size w w' → Q (.returned (.tuple #[.agg (rcs ⟨3, 0, 0, 0, 0, fld l 1 8, fld l 9 8, fld l 17 8, fld l 25 1⟩), .int .i64 0])) w')) (HQ2 : Hid (mayB ⟨3, 0, 0, 0, 0, fld l 1 8, fld l 9 8, fld l 17 8, fld l 25 1⟩ = false → ∀ w', Below w.heap.size w w' → Q (.returned (.tuple #[.agg (rcs rz), .int .i64 4])) w')) :
    Calls Tryd.prog 20 #[.string (str l)] w Q := by
  have H0 := Loc.one w 33 #[.int .i64 0, .int .u64 0, .int .u8 0, .int .u8 0, .int .u8 0, .int .u64 0, .int .u64 0, .int .u64 0, .int .u8 0]
  have hl : l.length ≤ 1099511627776 := by omega
  have HMAY := fun w => may_c ⟨3, 0, 0, 0, 0, fld l 1 8, fld l 9 8, fld l 17 8, fld l 25 1⟩ w (mk_fit (by decide) (by decide) (by decide) (by decide) (by decide) (fld_lt8 _ _) (fld_lt8 _ _) (fld_lt8 _ _) (fld_lt1 _ _))
  have Ns := fun w => number_c l 1 w (by omega) hl
  have Ls := fld_lt8 l 1
  have Ni := fun w => number_c l 9 w (by omega) hl
  have Li := fld_lt8 l 9
  have Ne := fun w => number_c l 17 w (by omega) hl
  have Le := fld_lt8 l 17
  have By := fld_one (l := l) (a := 25) (by omega)
  have Ly := fld_lt1 l 25
  have hs := str_size l
  have hne : l ≠ [] := fun e => by rw [e] at h0; exact absurd h0 (by decide)
  have hemp : (str l).toList.isEmpty = false := by rw [ByteArray.toList_eq, str_data]; cases l with | nil => exact absurd rfl hne | cons b r => rfl
  have hp : 0 < l.length := h0
  have e0 := fld_one (l := l) (a := 0) hp
  go_enter Tryd.func20, Tryd.ntmps20
  go_upto_region 1 with fail
  generalize w.alloc (.cells #[.int .i64 0, .int .u64 0, .int .u8 0, .int .u8 0, .int .u8 0, .int .u64 0, .int .u64 0, .int .u64 0, .int .u8 0] 33) = wa at *
  have HLG := fun w => lng_c 3 w (by decide)
  rw [show lng 3 = 26 from rfl] at HLG
  rw [hk] at e0
  clear hne hk
  generalize fld l 1 8 = s at *
  generalize fld l 9 8 = i at *
  generalize fld l 17 8 = e at *
  generalize fld l 25 1 = y at *
  have HMAY := Lib.hid HMAY
  go_wp2_with fail
  refine (HLG wa).mono ?_
  rintro E w1 ⟨rfl, hb1⟩
  have H1 := H0.to hb1
  clear H0
  go_wp2_with fail
  refine (HLG w1).mono ?_
  rintro E w2 ⟨rfl, hb2⟩
  have H2 := H1.to hb2
  clear H1 HLG
  obtain ⟨g5, w3, z3, s3, H3, q3⟩ := H2.newA ty_dec #[.int .i64 0, .int .u64 0, .int .u8 0, .int .u8 0, .int .u8 0, .int .u64 0, .int .u64 0, .int .u64 0, .int .u8 0] #[.int .i64 3, .int .u64 0, .int .u8 0, .int .u8 0, .int .u8 0, .int .u64 0, .int .u64 0, .int .u64 0, .int .u8 0] rfl rfl rfl
  replace H3 : Loc w.heap.size w w3 [(w.heap.size, 33, #[.int .i64 0, .int .u64 0, .int .u8 0, .int .u8 0, .int .u8 0, .int .u64 0, .int .u64 0, .int .u64 0, .int .u8 0]), (g5, 33, #[.int .i64 3, .int .u64 0, .int .u8 0, .int .u8 0, .int .u8 0, .int .u64 0, .int .u64 0, .int .u64 0, .int .u8 0])] := H3
  clear q3 H2
  go_wp2_with fail
  clear s3 z3
  refine (Ns w3).mono ?_
  rintro E w' ⟨rfl, rfl⟩
  obtain ⟨w4, s4, H4, q4⟩ := H3.stO ty_u64 1 rfl 5 (.int .u64 (s : Int)) (cs' := #[.int .i64 3, .int .u64 0, .int .u8 0, .int .u8 0, .int .u8 0, .int .u64 (s : Int), .int .u64 0, .int .u64 0, .int .u8 0]) rfl (L' := [(w.heap.size, 33, #[.int .i64 0, .int .u64 0, .int .u8 0, .int .u8 0, .int .u8 0, .int .u64 0, .int .u64 0, .int .u64 0, .int .u8 0]), (g5, 33, #[.int .i64 3, .int .u64 0, .int .u8 0, .int .u8 0, .int .u8 0, .int .u64 (s : Int), .int .u64 0, .int .u64 0, .int .u8 0])]) rfl (Nat.le_of_ble_eq_true rfl) rfl rfl
  clear q4 H3
  go_wp2_with fail
  clear s4
  refine (Ni w4).mono ?_
  rintro E w' ⟨rfl, rfl⟩
  obtain ⟨w5, s5, H5, q5⟩ := H4.stO ty_u64 1 rfl 6 (.int .u64 (i : Int)) (cs' := #[.int .i64 3, .int .u64 0, .int .u8 0, .int .u8 0, .int .u8 0, .int .u64 (s : Int), .int .u64 (i : Int), .int .u64 0, .int .u8 0]) rfl (L' := [(w.heap.size, 33, #[.int .i64 0, .int .u64 0, .int .u8 0, .int .u8 0, .int .u8 0, .int .u64 0, .int .u64 0, .int .u64 0, .int .u8 0]), (g5, 33, #[.int .i64 3, .int .u64 0, .int .u8 0, .int .u8 0, .int .u8 0, .int .u64 (s : Int), .int .u64 (i : Int), .int .u64 0, .int .u8 0])]) rfl (Nat.le_of_ble_eq_true rfl) rfl rfl
  clear q5 H4
  go_wp2_with fail
  clear s5
  refine (Ne w5).mono ?_
  rintro E w' ⟨rfl, rfl⟩
  obtain ⟨w6, s6, H6, q6⟩ := H5.stO ty_u64 1 rfl 7 (.int .u64 (e : Int)) (cs' := #[.int .i64 3, .int .u64 0, .int .u8 0, .int .u8 0, .int .u8 0, .int .u64 (s : Int), .int .u64 (i : Int), .int .u64 (e : Int), .int .u8 0]) rfl (L' := [(w.heap.size, 33, #[.int .i64 0, .int .u64 0, .int .u8 0, .int .u8 0, .int .u8 0, .int .u64 0, .int .u64 0, .int .u64 0, .int .u8 0]), (g5, 33, #[.int .i64 3, .int .u64 0, .int .u8 0, .int .u8 0, .int .u8 0, .int .u64 (s : Int), .int .u64 (i : Int), .int .u64 (e : Int), .int .u8 0])]) rfl (Nat.le_of_ble_eq_true rfl) rfl rfl
  clear q6 H5
  obtain ⟨w7, s7, H7, q7⟩ := H6.stO ty_u8 1 rfl 8 (.int .u8 (y : Int)) (cs' := #[.int .i64 3, .int .u64 0, .int .u8 0, .int .u8 0, .int .u8 0, .int .u64 (s : Int), .int .u64 (i : Int), .int .u64 (e : Int), .int .u8 (y : Int)]) rfl (L' := [(w.heap.size, 33, #[.int .i64 0, .int .u64 0, .int .u8 0, .int .u8 0, .int .u8 0, .int .u64 0, .int .u64 0, .int .u64 0, .int .u8 0]), (g5, 33, #[.int .i64 3, .int .u64 0, .int .u8 0, .int .u8 0, .int .u8 0, .int .u64 (s : Int), .int .u64 (i : Int), .int .u64 (e : Int), .int .u8 (y : Int)])]) rfl (Nat.le_of_ble_eq_true rfl) rfl rfl
  clear q7 H6
  replace H7 : Loc w.heap.size w w7 [(w.heap.size, 33, #[.int .i64 0, .int .u64 0, .int .u8 0, .int .u8 0, .int .u8 0, .int .u64 0, .int .u64 0, .int .u64 0, .int .u8 0]), (g5, 33, rcs ⟨3, 0, 0, 0, 0, s, i, e, y⟩)] := H7
  have lv := H7.ldA ty_dec 1 rfl 0 (vs := rcs ⟨3, 0, 0, 0, 0, s, i, e, y⟩) rfl (Nat.le_of_ble_eq_true rfl)
  go_wp2_with fail
  refine (HMAY.out _).mono ?_
  rintro E w8 ⟨rfl, hb8⟩
  have H8 := H7.to hb8
  clear s7 lv H7
  cases hm : mayB ⟨3, 0, 0, 0, 0, s, i, e, y⟩
  · obtain ⟨w9, s9, H9, q9⟩ := H8.stA ty_dec 0 rfl 0 #[.int .i64 0, .int .u64 0, .int .u8 0, .int .u8 0, .int .u8 0, .int .u64 0, .int .u64 0, .int .u64 0, .int .u8 0] (cs' := rcs rz) rfl (L' := [(w.heap.size, 33, rcs rz), (g5, 33, rcs ⟨3, 0, 0, 0, 0, s, i, e, y⟩)]) rfl (Nat.le_of_ble_eq_true rfl) rfl rfl
    clear q9
    have HF := Lib.hid (HQ2.out hm)
    go_wp2
    refine bodyPost_ret (shut_rec _ 4 _ Tryd.results20 ty_dec (H9.get 0 rfl) rfl rfl rfl) rfl ?_
    exact HF.out _ H9.be
  · have lw := H8.ldA ty_dec 1 rfl 0 (vs := rcs ⟨3, 0, 0, 0, 0, s, i, e, y⟩) rfl (Nat.le_of_ble_eq_true rfl)
    obtain ⟨w9, s9, H9, q9⟩ := H8.stA ty_dec 0 rfl 0 (rcs ⟨3, 0, 0, 0, 0, s, i, e, y⟩) (cs' := rcs ⟨3, 0, 0, 0, 0, s, i, e, y⟩) rfl (L' := [(w.heap.size, 33, rcs ⟨3, 0, 0, 0, 0, s, i, e, y⟩), (g5, 33, rcs ⟨3, 0, 0, 0, 0, s, i, e, y⟩)]) rfl (Nat.le_of_ble_eq_true rfl) rfl rfl
    clear q9
    have HF := Lib.hid (HQ1.out hm)
    go_wp2
    refine bodyPost_ret (shut_rec _ 0 _ Tryd.results20 ty_dec (H9.get 0 rfl) rfl rfl rfl) rfl ?_
    exact HF.out _ H9.be
end Go.Proofs.YthnelnfefllhpaaDoor
