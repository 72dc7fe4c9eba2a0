/- Texts of elder layers, one behind the other. -/
import Derived.Test.YthnelnfefllhpaaGreatDoorBg
import Derived.Deep.Strs
import Derived.Deep.RegionHeld3
import Derived.Laws.Append
import Derived.Laws.AppendOwn
import Derived.BigQuiet
import Derived.IntWalk
/- The statements' own small functions: records, their bytes. Conditions: the table of four steps lies in its variable. -/
namespace Go.Proofs.YthnelnfefllhpaaGreatDoor
open Go.RowKit
set_option linter.unusedVariables false
set_option linter.unusedSimpArgs false
set_option maxRecDepth 20000

def rH (n f : Nat) : Rc := ⟨3, 0, 0, 0, 0, n, f, 1, 0⟩
def rO (f i : Nat) : Rc := ⟨1, f, i, 0, 0, 0, 0, 0, 0⟩
def rS (f a b : Nat) : Rc := ⟨2, f, 0, a, b, 0, 0, 0, 0⟩
theorem rH_ok {n f : Nat} (hn : n < 18446744073709551616) (hf : f < 18446744073709551616) : (rH n f).fit ∧ mayB (rH n f) = true :=
  ⟨⟨by simp [rH], by simp [rH], by simp [rH], by simp [rH], by simp [rH], by simp [rH], hn, hf, by simp [rH], by simp [rH]⟩, by simp [mayB, lowB, rH]⟩
theorem rO_ok {f i : Nat} (hf : f < 18446744073709551616) (hi : i < 64) : (rO f i).fit ∧ mayB (rO f i) = true :=
  ⟨⟨by simp [rO], by simp [rO], hf, by show i < 256; omega, by simp [rO], by simp [rO], by simp [rO], by simp [rO], by simp [rO], by simp [rO]⟩, by simp [mayB, lowB, rO, hi]⟩
theorem rS_ok {f a b : Nat} (hf : f < 18446744073709551616) (ha : a < 64) (hb : b < 64) : (rS f a b).fit ∧ mayB (rS f a b) = true :=
  ⟨⟨by simp [rS], by simp [rS], hf, by simp [rS], by show a < 256; omega, by show b < 256; omega, by simp [rS], by simp [rS], by simp [rS], by simp [rS]⟩, by simp [mayB, lowB, rS, ha, hb]⟩
attribute [local go_sem ↓] ld_rec st_rec
theorem head_c (n f : Nat) (w : World) : Calls Tryz.prog 16 #[.int .u64 (n : Int), .int .u64 (f : Int)] w fun E w' => E = .returned (.agg (rcs (rH n f))) ∧ Below w.heap.size w w' := by
  have H0 := Lib.hid (Loc.one w 43 #[.int .i64 0, .int .u64 0, .int .u8 0, .int .u8 0, .int .u8 0, .int .u64 0, .int .u64 0, .int .u64 0, .int .u8 0])
  go_enter Tryz.func16, Tryz.ntmps16
  go_upto_region 1 with fail
  generalize w.alloc (.cells #[.int .i64 0, .int .u64 0, .int .u8 0, .int .u8 0, .int .u8 0, .int .u64 0, .int .u64 0, .int .u64 0, .int .u8 0] 43) = wa at *
  obtain ⟨w3, s3, h3, q3⟩ := H0.out.stA ty_rec 0 rfl 0 #[.int .i64 3, .int .u64 0, .int .u8 0, .int .u8 0, .int .u8 0, .int .u64 (n : Int), .int .u64 (f : Int), .int .u64 1, .int .u8 0] (cs' := rcs (rH n f)) (by simp [rcs, rH]) (L' := [(w.heap.size, 43, rcs (rH n f))]) rfl (Nat.le_of_ble_eq_true rfl) rfl (by simp [Value.oneCell'])
  have H3 := Lib.hid h3
  clear h3 q3
  go_wp2
  refine bodyPost_ret (ret_struct Tryz.underlying43 ty_rec _ 4 _ Tryz.results16 (H3.out.get 0 rfl) rfl rfl) rfl ?_
  exact ⟨rfl, H3.out.be⟩
theorem own_c (f i : Nat) (w : World) : Calls Tryz.prog 19 #[.int .u64 (f : Int), .int .u8 (i : Int)] w fun E w' => E = .returned (.agg (rcs (rO f i))) ∧ Below w.heap.size w w' := by
  have H0 := Lib.hid (Loc.one w 43 #[.int .i64 0, .int .u64 0, .int .u8 0, .int .u8 0, .int .u8 0, .int .u64 0, .int .u64 0, .int .u64 0, .int .u8 0])
  go_enter Tryz.func19, Tryz.ntmps19
  go_upto_region 1 with fail
  generalize w.alloc (.cells #[.int .i64 0, .int .u64 0, .int .u8 0, .int .u8 0, .int .u8 0, .int .u64 0, .int .u64 0, .int .u64 0, .int .u8 0] 43) = wa at *
  obtain ⟨w3, s3, h3, q3⟩ := H0.out.stA ty_rec 0 rfl 0 #[.int .i64 1, .int .u64 (f : Int), .int .u8 (i : Int), .int .u8 0, .int .u8 0, .int .u64 0, .int .u64 0, .int .u64 0, .int .u8 0] (cs' := rcs (rO f i)) (by simp [rcs, rO]) (L' := [(w.heap.size, 43, rcs (rO f i))]) rfl (Nat.le_of_ble_eq_true rfl) rfl (by simp [Value.oneCell'])
  have H3 := Lib.hid h3
  clear h3 q3
  go_wp2
  refine bodyPost_ret (ret_struct Tryz.underlying43 ty_rec _ 4 _ Tryz.results19 (H3.out.get 0 rfl) rfl rfl) rfl ?_
  exact ⟨rfl, H3.out.be⟩
theorem sure_c (f a b : Nat) (w : World) : Calls Tryz.prog 20 #[.int .u64 (f : Int), .int .u8 (a : Int), .int .u8 (b : Int)] w fun E w' => E = .returned (.agg (rcs (rS f a b))) ∧ Below w.heap.size w w' := by
  have H0 := Lib.hid (Loc.one w 43 #[.int .i64 0, .int .u64 0, .int .u8 0, .int .u8 0, .int .u8 0, .int .u64 0, .int .u64 0, .int .u64 0, .int .u8 0])
  go_enter Tryz.func20, Tryz.ntmps20
  go_upto_region 1 with fail
  generalize w.alloc (.cells #[.int .i64 0, .int .u64 0, .int .u8 0, .int .u8 0, .int .u8 0, .int .u64 0, .int .u64 0, .int .u64 0, .int .u8 0] 43) = wa at *
  obtain ⟨w3, s3, h3, q3⟩ := H0.out.stA ty_rec 0 rfl 0 #[.int .i64 2, .int .u64 (f : Int), .int .u8 0, .int .u8 (a : Int), .int .u8 (b : Int), .int .u64 0, .int .u64 0, .int .u64 0, .int .u8 0] (cs' := rcs (rS f a b)) (by simp [rcs, rS]) (L' := [(w.heap.size, 43, rcs (rS f a b))]) rfl (Nat.le_of_ble_eq_true rfl) rfl (by simp [Value.oneCell'])
  have H3 := Lib.hid h3
  clear h3 q3
  go_wp2
  refine bodyPost_ret (ret_struct Tryz.underlying43 ty_rec _ 6 _ Tryz.results20 (H3.out.get 0 rfl) rfl rfl) rfl ?_
  exact ⟨rfl, H3.out.be⟩
/-- The bytes of records that may be. -/
def Mays (l : List Rc) : Prop := ∀ r ∈ l, r.fit ∧ mayB r = true
theorem bys_take {l : List Rc} {k : Nat} (hk : k < l.length) : bys (l.take (k + 1)) = bys (l.take k) ++ byR (l[k]'hk) := by
  rw [List.take_succ_eq_append_getElem hk, bys_app, bys_one]
theorem pA_of {r : Rc} (h : mayB r = true) : pA r = encR r ∧ pE r = 0 := ⟨if_pos h, if_pos h⟩
theorem putS_of (r : Rc) : putS (encR r) = byR r ∧ putE (encR r) = 0 := by
  have := encR_len r
  unfold putS putE
  rw [if_pos (by omega), if_pos (by omega)]
  exact ⟨rfl, rfl⟩
set_option maxHeartbeats 1000000 in
theorem lput_c (l : List Rc) (ao : Option Addr) (cap : Nat) (w : World) (h : RcsAt w ao l) (hm : Mays l) (hl : l.length ≤ 1000000) (ht : Tab w) :
    Calls Tryz.prog 18 #[.slice ao l.length cap] w fun E w' => E = .returned (.string (str (bys l))) ∧ Below w.heap.size w w' := by
  have H := Lib.hid h
  have HM := Lib.hid hm
  have HT := Lib.hid ht
  have h0 : str [] = ⟨#[]⟩ := rfl
  clear h hm ht
  go_enter Tryz.func18, Tryz.ntmps18
  go_wp2
  go_loopw [3, 4] (fun s i wr => ∃ k : Nat, k ≤ l.length ∧ i = .int .i64 (k : Int) ∧ s = .string (str (bys (l.take k))) ∧ Hid (Below w.heap.size w wr)) (fun _ i _ => l.length - (intOf i).toNat)
  case atStart => exact ⟨0, Nat.zero_le _, rfl, rfl, Below.refl _ _⟩
  case round =>
    obtain ⟨k, hk, rfl, rfl, HB⟩ := hrel
    by_cases hlt : k < l.length
    · have hstep := Lib.hid (bys_take hlt)
      have hbl := bys_len (l.take k)
      have hsz := str_size (bys (l.take k))
      rw [List.length_take] at hbl
      obtain ⟨hf, hmy⟩ := HM.out _ (List.getElem_mem hlt)
      obtain ⟨b, o, rfl, hload⟩ := H.out.one hlt
      generalize l[k]'hlt = r at *
      generalize bys (l.take k) = z at *
      have l1 := (hload _ HB.out).1 _ ty_rec
      obtain ⟨e1, e2⟩ := pA_of hmy
      obtain ⟨e3, e4⟩ := putS_of r
      have HP : Hid (∀ w, Calls Tryz.prog 42 #[.agg (rcs r)] w fun E w' => E = .returned (.tuple #[.string (str (encR r)), .int .i64 0]) ∧ Below w.heap.size w w') := fun w => by
        have := put_c r w hf
        rwa [e1, e2] at this
      have HF : Hid (∀ w, Tab w → Calls Tryz.prog 21 #[.string (str (encR r))] w fun E w' => E = .returned (.tuple #[.string (str (byR r)), .int .i64 0]) ∧ Below w.heap.size w w') := fun w ht => by
        have := fput_c (encR r) w (Nat.le_trans (encR_le r) (by decide)) ht
        rw [e3, e4] at this
        exact this.mono fun E w' ⟨h1, h2⟩ => ⟨h1, below_of_grown h2⟩
      have hrl := byR_hi r
      have hsr := str_size (byR r)
      have hap := str_append z (byR r)
      have HLT := Lib.hid hlt
      have HT1 := Lib.hid (tab_b HT.out HT.out.1 HB.out)
      have hsum : ¬ (9223372036854775807 < (z.length : Int) + ((byR r).length : Int)) := by omega
      clear e1 e2 e3 e4 hf hmy hload
      go_wp2_with fail
      refine (HP.out _).mono ?_
      rintro E w1 ⟨rfl, hb1⟩
      have HB1 := Lib.hid (HB.out.trans (hb1.mono HB.out.size))
      have HT2 := Lib.hid (tab_b HT1.out HT1.out.1 hb1)
      clear hb1 HT1
      go_wp2_with fail
      refine (HF.out _ HT2.out).mono ?_
      rintro E w2 ⟨rfl, hb2⟩
      have HB2 := Lib.hid (HB1.out.trans (hb2.mono HB1.out.size))
      clear hb2 HB1 HP HF HT2 HB l1
      go_wp2
      go_roundw
      case rel => exact ⟨k + 1, HLT.out, by go_num, by rw [hstep.out], HB2⟩
      case measure => have := HLT.out; simp [intOf]; omega
    · obtain rfl : k = l.length := by omega
      rw [List.take_length]
      go_wp2
      go_ret
      exact ⟨rfl, HB.out⟩
end Go.Proofs.YthnelnfefllhpaaGreatDoor
/- What is told of bytes (is); slices of two and three records; works. Conditions: the table of four steps lies in its variable. -/
namespace Go.Proofs.YthnelnfefllhpaaGreatDoor
open Go.RowKit
set_option linter.unusedVariables false
set_option linter.unusedSimpArgs false
set_option maxRecDepth 20000

/-- Two, three records in a slice, laid new. -/
def bsK (TS : TypeId) (n : Nat) (ps : Array (Nat × Value)) : Sem Value := Instr.buildSlice TS n ps
theorem bs_m2 (ps : Array (Nat × Value)) : Instr.buildSlice 31 2 ps = bsK 31 2 ps := rfl
theorem bs_m3 (ps : Array (Nat × Value)) : Instr.buildSlice 31 3 ps = bsK 31 3 ps := rfl
theorem bs_two (a b : Rc) (w : World) : (bsK 31 2 #[(0, .agg (rcs a)), (1, .agg (rcs b))]).run Tryz.prog w = .ok (.slice (some ⟨w.heap.size, 0, none⟩) 2 2) (w.alloc (.cells (Rall [a, b]).toArray 43)) := by
  obtain ⟨i0, hi0, hz0, hz1, hz2⟩ := info_parts info_rec
  have hu := Tryz.underlying31
  have h0 : ((Array.range (2 * 9)).map fun x => (rcs rz)[x % (rcs rz).size]!) = (Rall [rz, rz]).toArray := by kernel_rfl
  simp [bsK, Instr.buildSlice, run_underlying hu, sizeOf, typeInfo, zeroValue, hi0, hz0, hz1, newRow, go_sem, Value.cells, Instr.fill] at h0 ⊢
  rw [h0]
  rw [if_neg (by simp [Rall, rcs])]
  simp [rcs, Rall, go_sem]
theorem bs_three (a b c : Rc) (w : World) : (bsK 31 3 #[(0, .agg (rcs a)), (1, .agg (rcs b)), (2, .agg (rcs c))]).run Tryz.prog w = .ok (.slice (some ⟨w.heap.size, 0, none⟩) 3 3) (w.alloc (.cells (Rall [a, b, c]).toArray 43)) := by
  obtain ⟨i0, hi0, hz0, hz1, hz2⟩ := info_parts info_rec
  have hu := Tryz.underlying31
  have h0 : ((Array.range (3 * 9)).map fun x => (rcs rz)[x % (rcs rz).size]!) = (Rall [rz, rz, rz]).toArray := by kernel_rfl
  simp [bsK, Instr.buildSlice, run_underlying hu, sizeOf, typeInfo, zeroValue, hi0, hz0, hz1, newRow, go_sem, Value.cells, Instr.fill] at h0 ⊢
  rw [h0]
  rw [if_neg (by simp [Rall, rcs])]
  simp [rcs, Rall, go_sem]
theorem rcsAt_block {w : World} {g : Nat} {T : TypeId} {cs : Array Value} {l : List Rc} (h : Cells w g T cs) (hc : cs = (Rall l).toArray) : RcsAt w (some ⟨g, 0, none⟩) l := fun k hk => ⟨g, 0, rfl, fun i v hv => by
  rw [h.cell, hc, Nat.zero_add]
  have := Rall_at l k i hk v hv
  simpa using this⟩
theorem re_eq_zero (a : Rc) (w : World) : (binOp .eql 43 (.agg (rcs a)) (.agg #[.int .i64 0, .int .u64 0, .int .u8 0, .int .u8 0, .int .u8 0, .int .u64 0, .int .u64 0, .int .u64 0, .int .u8 0])).run Tryz.prog w = .ok (.bool (reB a rz)) w := re_eql a rz _ (.inl rfl) w
theorem re_eq_rec (a b : Rc) (w : World) : (binOp .eql 43 (.agg (rcs a)) (.agg (rcs b))).run Tryz.prog w = .ok (.bool (reB a b)) w := re_eql a b _ (.inl rfl) w
attribute [local go_sem ↓] ld_rec st_rec
set_option maxHeartbeats 1000000 in
theorem is_no (s : List UInt8) (e : Int) (w : World) (hs : s.length ≤ 1048576) (h : ∃ x, scn 1 sg0 0 s = ⟨x, 0, e⟩ ∧ x.h = rz ∧ x.l = []) (ht : Tab w) :
    Calls Tryz.prog 17 #[.string (str s), .int .i64 (-1), .int .i64 e] w fun E w' => E = .returned (.bool true) ∧ Below w.heap.size w w' := by
  obtain ⟨x, hx, hh, hl⟩ := h
  have HC := scan_c s 1 w hs (by omega) ht
  rw [hx] at HC
  have HC := Lib.hid HC
  have hz := re_eq_zero rz
  have hzz := reB_self rz
  have hee : (e == e) = true := by simp
  clear ht hx
  go_enter Tryz.func17, Tryz.ntmps17
  go_wp2_with fail
  refine HC.out.mono ?_
  rintro E w1 ⟨ao, cap, rfl, _, _, _, _, _, hb⟩
  have HB := Lib.hid hb
  simp only [hh, hl, List.length_nil]
  obtain ⟨g, w2, z1, s1, h1, q1⟩ := (Loc.nil (Nat.le_refl w1.heap.size)).newA ty_rec #[.int .i64 0, .int .u64 0, .int .u8 0, .int .u8 0, .int .u8 0, .int .u64 0, .int .u64 0, .int .u64 0, .int .u8 0] (rcs rz) rfl rfl (List.all_eq_true.2 (rcs_one rz))
  have l1 := h1.ldA ty_rec 0 rfl 0 (vs := rcs rz) (by simp [rcs]) (Nat.le_of_ble_eq_true rfl)
  have HB2 := Lib.hid (HB.out.trans ((below_of_grown q1).mono HB.out.size))
  clear hb h1 q1 hh hl
  go_wp2
  go_ret
  exact ⟨rfl, HB2.out⟩
set_option maxHeartbeats 2000000 in
theorem is_yes (s : List UInt8) (m : Nat) (e : Int) (w : World) (hs : s.length ≤ 1048576) (hm : m ≤ 1000000) (h : ∃ x a, scn 1 sg0 0 s = ⟨x, a, e⟩ ∧ x.h = rH 1 5 ∧ x.l.length = m ∧ a ≤ s.length ∧ (a = s.length ↔ e = 0)) (ht : Tab w) :
    Calls Tryz.prog 17 #[.string (str s), .int .i64 (m : Int), .int .i64 e] w fun E w' => E = .returned (.bool true) ∧ Below w.heap.size w w' := by
  obtain ⟨x, a, hx, hh, hl, ha, hae⟩ := h
  have HC := scan_c s 1 w hs (by omega) ht
  rw [hx] at HC
  have HC := Lib.hid HC
  have hsz := str_size s
  have hq := re_eq_rec (rH 1 5) (rH 1 5)
  have hqq := reB_self (rH 1 5)
  obtain ⟨b, hb1⟩ : ∃ b, b = ((a : Int) == (s.length : Int)) := ⟨_, rfl⟩
  have hb2 : (e == 0) = b := by
    rw [hb1, Bool.eq_iff_iff, beq_iff_eq, beq_iff_eq, ← hae]; omega
  have hee : (e == e) = true := by simp
  have hmm : ((m : Int) == (m : Int)) = true := by simp
  have hbb : (b == b) = true := by cases b <;> rfl
  have ha2 : (a : Int) ≤ (s.length : Int) := by omega
  have hb3 := hb1.symm
  have hm0 : ¬ (m : Int) < 0 := by omega
  have HH := Lib.hid (head_c 1 5)
  have HLM := Lib.hid hl
  clear ht hx hb1 hae ha hl
  go_enter Tryz.func17, Tryz.ntmps17
  go_wp2_with fail
  refine HC.out.mono ?_
  rintro E w1 ⟨ao, cap, rfl, _, _, _, _, _, hb⟩
  have HB := Lib.hid hb
  simp only [hh, HLM.out]
  obtain ⟨g, w2, z1, s1, h1, q1⟩ := (Loc.nil (Nat.le_refl w1.heap.size)).newA ty_rec #[.int .i64 0, .int .u64 0, .int .u8 0, .int .u8 0, .int .u8 0, .int .u64 0, .int .u64 0, .int .u64 0, .int .u8 0] (rcs (rH 1 5)) rfl rfl (List.all_eq_true.2 (rcs_one (rH 1 5)))
  have HB2 := Lib.hid (HB.out.trans ((below_of_grown q1).mono HB.out.size))
  clear hb q1 hh
  go_upto_region 4 with fail
  have a1 := h1.onA ty_rec 0 rfl 0 (vs := rcs (rH 1 5)) (by simp [rcs]) (Nat.le_of_ble_eq_true rfl)
  clear s1 z1 h1
  have o0 := G.On.drew w2.heap.size w2
  go_region_held3 (fun w' => G.On w2.heap.size w2 w') (first | assumption) (first | (go_at_call 16; refine (HH.out _).mono ?_; rintro E w4 ⟨rfl, hb4⟩; have o4 := G.on_step (wd := w2) (by assumption) hb4))
  have HB4 := Lib.hid (HB2.out.trans (o4.mono HB2.out.size))
  clear o0 a1
  go_wp2
  go_ret
  exact ⟨rfl, HB4.out⟩
end Go.Proofs.YthnelnfefllhpaaGreatDoor
/- The chapter's examples in plain words; works. Conditions: the table of four steps lies in its variable. -/
namespace Go.Proofs.YthnelnfefllhpaaGreatDoor
open Go.RowKit
set_option linter.unusedVariables false
set_option linter.unusedSimpArgs false
set_option maxRecDepth 20000

theorem scn_whole {n : Nat} {l : List Rc} (h : Goes n sg0 l) (hl : l ≠ []) : scn n sg0 0 (bys l) = ⟨runS sg0 l, (bys l).length, 0⟩ := by
  have := scn_run (a := 0) [] h
  rw [List.append_nil, Nat.zero_add, scn_end (runS_b h hl)] at this
  exact this
theorem scn_stop {n : Nat} {l : List Rc} {r : Rc} {e : Int} (h : Goes n sg0 l) (hf : r.fit) (hm : mayB r = true) (ht : tkS n (runS sg0 l) r = e) (he : e ≠ 0) (m : List UInt8) : scn n sg0 0 (bys l ++ (byR r ++ m)) = ⟨runS sg0 l, (bys l).length, e⟩ := by
  rw [scn_run (byR r ++ m) h, Nat.zero_add, scn_wrong hf hm (by rw [ht]; exact he), ht]
/-- What 'is' asks of bytes. -/
def IsP (s : List UInt8) (m : Nat) (e : Int) : Prop := ∃ x a, scn 1 sg0 0 s = ⟨x, a, e⟩ ∧ x.h = rH 1 5 ∧ x.l.length = m ∧ a ≤ s.length ∧ (a = s.length ↔ e = 0)
def IsN (s : List UInt8) (e : Int) : Prop := ∃ x, scn 1 sg0 0 s = ⟨x, 0, e⟩ ∧ x.h = rz ∧ x.l = []
theorem isP_whole {l : List Rc} (h : Goes 1 sg0 (rH 1 5 :: l)) : IsP (bys (rH 1 5 :: l)) l.length 0 := by
  obtain ⟨h1, h2, _⟩ := runS_told h
  exact ⟨_, _, scn_whole h (by simp), h1, by rw [h2], Nat.le_refl _, by simp⟩
theorem isP_stop {l : List Rc} {r : Rc} {e : Int} (h : Goes 1 sg0 (rH 1 5 :: l)) (hr : r.fit ∧ mayB r = true) (ht : tkS 1 (runS sg0 (rH 1 5 :: l)) r = e) (he : e ≠ 0) (m : List UInt8) : IsP (bys (rH 1 5 :: l) ++ (byR r ++ m)) l.length e := by
  obtain ⟨h1, h2, _⟩ := runS_told h
  have := byR_lo r
  refine ⟨_, _, scn_stop h hr.1 hr.2 ht he m, h1, by rw [h2], by rw [List.length_append]; omega, ?_⟩
  rw [List.length_append, List.length_append]
  constructor
  · intro h3; omega
  · intro h3; exact absurd h3 he
theorem isP_bad {l : List Rc} {s : List UInt8} {e : Int} (h : Goes 1 sg0 (rH 1 5 :: l)) (hs : s ≠ []) (ht : fe s = e) (he : e ≠ 0) : IsP (bys (rH 1 5 :: l) ++ s) l.length e := by
  obtain ⟨h1, h2, h3⟩ := runS_told h
  refine ⟨_, _, by rw [scn_run s h, Nat.zero_add, scn_fe (fun h => hs h.1) (by rw [ht]; exact he), ht], h1, by rw [h2], by rw [List.length_append]; omega, ?_⟩
  rw [List.length_append]
  have := List.length_pos_iff.2 hs
  constructor
  · intro h3; omega
  · intro h3; exact absurd h3 he
theorem isP_take {l : List Rc} {s : List UInt8} {e : Int} (h : Goes 1 sg0 (rH 1 5 :: l)) (hs : fe s = 0) (ht : (tkR (fp s)).1 = e) (he : e ≠ 0) : IsP (bys (rH 1 5 :: l) ++ s) l.length e := by
  obtain ⟨h1, h2, h3⟩ := runS_told h
  refine ⟨_, _, by rw [scn_run s h, Nat.zero_add, scn_tk hs (by rw [ht]; exact he), ht], h1, by rw [h2], by rw [List.length_append]; omega, ?_⟩
  rw [List.length_append]
  have := List.length_pos_iff.2 (fe_ne hs)
  constructor
  · intro h3; omega
  · intro h3; exact absurd h3 he
theorem isN_stop {r : Rc} {e : Int} (hr : r.fit ∧ mayB r = true) (ht : tkS 1 sg0 r = e) (he : e ≠ 0) : IsN (byR r) e := by
  have := scn_wrong (n := 1) (x := sg0) (a := 0) hr.1 hr.2 (by rw [ht]; exact he) []
  rw [List.append_nil, ht] at this
  exact ⟨_, this, rfl, rfl⟩
theorem isN_empty : IsN [] 10 := ⟨sg0, by rw [scn_fe (fun h => by cases h.2) (by rw [fe_short (by simp)]; decide), fe_short (by simp)], rfl, rfl⟩
def W3 : List Rc := [rH 1 5, rO 5 7, rS 5 7 9]
theorem byR_H (n f : Nat) : (byR (rH n f)).length = 32 := by rw [byR_len]; simp [encR, encK, rH, le_length]
theorem byR_O (f i : Nat) : (byR (rO f i)).length = 16 := by rw [byR_len]; simp [encR, encK, rO, le_length]
theorem byR_S (f a b : Nat) : (byR (rS f a b)).length = 17 := by rw [byR_len]; simp [encR, encK, rS, le_length]
theorem goes_1 : Goes 1 sg0 [rH 1 5] := ⟨(rH_ok (by decide) (by decide)).1, (rH_ok (by decide) (by decide)).2, by decide, trivial⟩
theorem goes_2 : Goes 1 sg0 [rH 1 5, rO 5 7] := ⟨goes_1.1, goes_1.2.1, goes_1.2.2.1, (rO_ok (by decide) (by decide)).1, (rO_ok (by decide) (by decide)).2, by decide, trivial⟩
theorem goes_3 : Goes 1 sg0 W3 := ⟨goes_1.1, goes_1.2.1, goes_1.2.2.1, goes_2.2.2.2.1, goes_2.2.2.2.2.1, goes_2.2.2.2.2.2.1, (rS_ok (by decide) (by decide) (by decide)).1, (rS_ok (by decide) (by decide) (by decide)).2, by decide, trivial⟩
theorem W3_len : (bys W3).length = 65 := by simp [W3, bys_cons, bys_nil, byR_H, byR_O, byR_S]
theorem W3_is : IsP (bys W3) 2 0 := isP_whole goes_3
theorem W3_cut : IsP ((bys W3).take 64) 1 10 := by
  have h2 : (bys (W3.take 2)).length = 48 := by simp [W3, bys_cons, bys_nil, byR_H, byR_O]
  have := scn_begin goes_3 (m := 2) (k := 64) (by simp [W3]) (by rw [h2]; omega) (fun _ => by rw [show (2 : Nat) + 1 = 3 from rfl, show W3.take 3 = W3 from rfl, W3_len]; omega) (by rw [W3_len]; omega)
  obtain ⟨h3, h4, _⟩ := runS_told goes_2
  rw [h2] at this
  refine ⟨_, _, this, h3, by rw [show W3.take 2 = [rH 1 5, rO 5 7] from rfl, h4]; rfl, ?_, ?_⟩
  · rw [List.length_take, W3_len]; omega
  · rw [List.length_take, W3_len]; simp
theorem mays_of {n : Nat} : ∀ {l : List Rc} {x : Sg}, Goes n x l → Mays l
  | [], _, _, r, hr => by cases hr
  | a :: l, x, ⟨h1, h2, h3, h4⟩, r, hr => by
    rcases List.mem_cons.1 hr with rfl | hr
    · exact ⟨h1, h2⟩
    · exact mays_of h4 r hr
attribute [local go_sem ↓] bs_m3
attribute [local go_sem] bs_three
set_option maxHeartbeats 1000000 in
theorem works_c (w : World) (ht : Tab w) : Calls Tryz.prog 5 #[] w fun E w' => E = .returned (.bool true) ∧ Below w.heap.size w w' := by
  have HT := Lib.hid ht
  have h0 : str [] = ⟨#[]⟩ := rfl
  clear ht
  go_enter Tryz.func5, Tryz.ntmps5
  go_wp2_with fail
  refine (head_c 1 5 _).mono ?_
  rintro E w1 ⟨rfl, hb1⟩
  have B1 := Lib.hid hb1
  clear hb1
  go_wp2_with fail
  refine (own_c 5 7 _).mono ?_
  rintro E w2 ⟨rfl, hb2⟩
  have B2 := Lib.hid (B1.out.trans (hb2.mono B1.out.size))
  clear hb2 B1
  go_wp2_with fail
  refine (sure_c 5 7 9 _).mono ?_
  rintro E w3 ⟨rfl, hb3⟩
  have B3 := Lib.hid (B2.out.trans (hb3.mono B2.out.size))
  clear hb3 B2
  have hw3 := Lib.hid (rcsAt_block (l := W3) (Cells.made w3 43 (Rall [rH 1 5, rO 5 7, rS 5 7 9]).toArray) rfl)
  have B4 := Lib.hid (B3.out.alloc B3.out.size (.cells (Rall [rH 1 5, rO 5 7, rS 5 7 9]).toArray 43))
  go_wp2_with fail
  refine (lput_c W3 _ 3 _ hw3.out (mays_of goes_3) (by decide) (tab_b HT.out HT.out.1 B4.out)).mono ?_
  rintro E w5 ⟨rfl, hb5⟩
  have B5 := Lib.hid (B4.out.trans (hb5.mono B4.out.size))
  clear hb5 B4 hw3 B3
  have hsz := str_size (bys W3)
  have hcut : (str (bys W3)).extract 0 (max (0 : Int) 64).toNat = str ((bys W3).take 64) := str_cut (bys W3) 64
  have hin := Lib.hid W3_is
  have hic := Lib.hid W3_cut
  have hlen := Lib.hid W3_len
  rw [W3_len] at hsz
  generalize bys W3 = z at *
  go_wp2_with fail
  refine (is_yes z 2 0 _ (by rw [hlen.out]; omega) (by omega) hin.out (tab_b HT.out HT.out.1 B5.out)).mono ?_
  rintro E w6 ⟨rfl, hb6⟩
  have B6 := Lib.hid (B5.out.trans (hb6.mono B5.out.size))
  clear hb6 B5
  go_wp2_with fail
  refine (is_yes (z.take 64) 1 10 _ (by rw [List.length_take]; omega) (by omega) hic.out (tab_b HT.out HT.out.1 B6.out)).mono ?_
  rintro E w7 ⟨rfl, hb7⟩
  have B7 := Lib.hid (B6.out.trans (hb7.mono B6.out.size))
  clear hb7 B6
  go_wp2_with fail
  refine (is_no [] 10 _ (by simp) isN_empty (tab_b HT.out HT.out.1 B7.out)).mono ?_
  rintro E w8 ⟨rfl, hb8⟩
  have B8 := Lib.hid (B7.out.trans (hb8.mono B7.out.size))
  clear hb8 B7
  go_wp2
  go_ret
  exact ⟨rfl, B8.out⟩
end Go.Proofs.YthnelnfefllhpaaGreatDoor
/- A row of inputs of one's own that is gone along: its first one cut off, one more appended. -/
namespace Go.Proofs.YthnelnfefllhpaaGreatDoor
open Go.RowKit
set_option linter.unusedVariables false
set_option linter.unusedSimpArgs false
set_option maxRecDepth 20000

theorem info_inp : (Tryz.prog.info? 39).map (fun i => (i.zero, i.size, i.bytes)) = some (some (.int .u8 0), 1, 1) := by kernel_rfl
/-- Inputs in a row of one's own, from any place of it on. -/
structure QRow (B : Nat) (w : World) (bs : List Nat) (ao : Option Addr) (n cap : Nat) (xs : List Nat) : Prop where
  len : xs.length = n
  own : (ao = none ∧ n = 0 ∧ cap = 0) ∨ ∃ g o cur, ao = some ⟨g, o, none⟩ ∧ B ≤ g ∧ (∀ b ∈ bs, b ≠ g) ∧ w.heap[g]? = some (.cells cur 39 (0, 0)) ∧ n ≤ cap ∧ cap ≤ maxLen ∧ o + cap ≤ cur.size ∧ ∀ j (h : j < xs.length), cur[o + j]? = some (.int .u8 ((xs[j]'h : Nat) : Int))
  lo : ∀ b ∈ bs, b < w.heap.size
section
variable {B B0 : Nat} {w0 w w' : World} {L L' : List (Nat × TypeId × Array Value)} {bs : List Nat} {ao : Option Addr} {n cap : Nat} {xs : List Nat}
theorem QRow.nil (B : Nat) (w : World) (bs : List Nat) (hl : ∀ b ∈ bs, b < w.heap.size) : QRow B w bs none 0 0 [] := ⟨rfl, .inl ⟨rfl, rfl, rfl⟩, hl⟩
theorem QRow.to (h : QRow B w bs ao n cap xs) (hb : Below w.heap.size w w') : QRow B w' bs ao n cap xs :=
  ⟨h.len, h.own.imp id fun ⟨g, o, cur, h1, h2, h3, h4, h5⟩ => ⟨g, o, cur, h1, h2, h3, (hb.block g (Array.getElem?_eq_some_iff.1 h4).1).trans h4, h5⟩, fun b hbb => Nat.lt_of_lt_of_le (h.lo b hbb) hb.size⟩
theorem QRow.turn (h : QRow B w bs ao n cap xs) {k : Nat} (hk : k ∈ bs) (hb : w.grownBy w' (some k)) : QRow B w' bs ao n cap xs :=
  ⟨h.len, h.own.imp id fun ⟨g, o, cur, h1, h2, h3, h4, h5⟩ => ⟨g, o, cur, h1, h2, h3, (hb.block g (Array.getElem?_eq_some_iff.1 h4).1 (fun e => h3 k hk (Option.some.inj e).symm)).trans h4, h5⟩, fun b hbb => Nat.lt_of_lt_of_le (h.lo b hbb) hb.size⟩
theorem QRow.less (h : QRow B w bs ao n cap xs) {bs' : List Nat} (hs : ∀ b ∈ bs', b ∈ bs) : QRow B w bs' ao n cap xs :=
  ⟨h.len, h.own.imp id fun ⟨g, o, cur, h1, h2, h3, h4⟩ => ⟨g, o, cur, h1, h2, fun b hb => h3 b (hs b hb), h4⟩, fun b hb => h.lo b (hs b hb)⟩
theorem QRow.fresh (h : QRow B w bs ao n cap xs) (hg : Below w.heap.size w w') {g : Nat} (e : w.heap.size ≤ g) (hlt : g < w'.heap.size) : QRow B w' (bs ++ [g]) ao n cap xs := by
  have h1 := h.to hg
  refine ⟨h1.len, ?_, fun b hb => ?_⟩
  · rcases h.own with h2 | ⟨g', o, cur, e1, e2, e3, e4, e5⟩
    · exact .inl h2
    · have hlt' := (Array.getElem?_eq_some_iff.1 e4).1
      refine .inr ⟨g', o, cur, e1, e2, fun b hb => ?_, (hg.block g' hlt').trans e4, e5⟩
      rcases List.mem_append.1 hb with hb | hb
      · exact e3 b hb
      · rw [List.mem_singleton] at hb; omega
  · rcases List.mem_append.1 hb with hb | hb
    · exact h1.lo b hb
    · rw [List.mem_singleton] at hb; omega
/-- The row's own block alone turns. -/
theorem QRow.caps (h : QRow B w bs ao n cap xs) : n ≤ cap ∧ cap ≤ maxLen := by
  rcases h.own with ⟨_, h1, h2⟩ | ⟨_, _, _, _, _, _, _, h1, h2, _⟩
  · subst h1 h2; exact ⟨Nat.le_refl _, Nat.zero_le _⟩
  · exact ⟨h1, h2⟩
/-- One of them. -/
theorem QRow.at (h : QRow B w bs ao n cap xs) {j : Nat} (hj : j < xs.length) : ∃ g o, ao = some ⟨g, o, none⟩ ∧ w.cell? ⟨g, o + j, none⟩ = some (.int .u8 ((xs[j]'hj : Nat) : Int)) := by
  rcases h.own with ⟨_, h1, _⟩ | ⟨g, o, cur, e1, e2, e3, e4, e5, e6, e7, e8⟩
  · have := h.len; omega
  · exact ⟨g, o, e1, by rw [cell_of_row w g (o + j) cur _ (0, 0) e4]; exact e8 j hj⟩
/-- Without the first one. -/
theorem QRow.tail {x : Nat} (h : QRow B w bs ao n cap (x :: xs)) : ∃ g o, ao = some ⟨g, o, none⟩ ∧ ∀ ao', (ao' = some ⟨g, o, none⟩ ∧ cap = 1) ∨ (ao' = some ⟨g, o + 1, none⟩ ∧ cap ≠ 1) → QRow B w bs ao' (n - 1) (cap - 1) xs := by
  rcases h.own with ⟨_, h1, _⟩ | ⟨g, o, cur, e1, e2, e3, e4, e5, e6, e7, e8⟩
  · have := h.len; simp at this; omega
  · have hlen := h.len
    simp only [List.length_cons] at hlen
    refine ⟨g, o, e1, fun ao' ha => ⟨by omega, .inr ?_, h.lo⟩⟩
    rcases ha with ⟨rfl, hc⟩ | ⟨rfl, hc⟩
    · refine ⟨g, o, cur, rfl, e2, e3, e4, by omega, by omega, by omega, fun j hj => ?_⟩
      omega
    · refine ⟨g, o + 1, cur, rfl, e2, e3, e4, by omega, by omega, by omega, fun j hj => ?_⟩
      have := e8 (j + 1) (by simp; omega)
      rw [show o + 1 + j = o + (j + 1) by omega, this]
      rfl
theorem Loc.ownQ (h : Loc B0 w0 w L) (hB : B0 ≤ B) (hq : QRow B w bs ao n cap xs) (hbs : ∀ e ∈ L, e.1 ∈ bs) (hb : w.grownBy w' (ao.map (·.block))) : Loc B0 w0 w' L := by
  rcases hq.own with ⟨rfl, _, _⟩ | ⟨g, o, cur, rfl, e2, e3, _⟩
  · exact h.grown hb
  · exact h.row hb (Nat.le_trans hB e2) (fun e he q => e3 e.1 (hbs e he) q)
/-- append, where there is room. -/
theorem run_append_at {P : Program} (w : World) (t ty e : TypeId) (i : TypeInfo) (ht : P.underlying t = some (.slice e)) (hi : P.info? e = some i) (hs : i.size = 1)
    (g o sLen sCap : Nat) (cur : Array Value) (hg : w.heap[g]? = some (.cells cur e (0, 0)))
    (a : Addr) (c : Nat) (u : Value) (hnews : w.cell? (a.add 0) = some u) (h1 : u.oneCell' = true)
    (hroom : sLen + 1 ≤ sCap) (hfit : o + sLen + 1 ≤ cur.size) :
    (Builtin.append_ #[t, t] ty #[.slice (some ⟨g, o, none⟩) sLen sCap, .slice (some a) 1 c]).run P w =
      .ok (.slice (some ⟨g, o, none⟩) (sLen + 1) sCap) (w.setRow g (cur.toList.take (o + sLen) ++ [u] ++ cur.toList.drop (o + sLen + 1)).toArray) := by
  have hf := run_firstCells_some (P := P) w i.size 1 a 1 c [u] (by simp [hs]) (fun j v hv => by
    cases j with
    | zero => cases hv; exact hnews
    | succ j => simp at hv)
  have hst := run_storeCells_at P g (o + sLen) e [u] 0 cur w hg (by simpa using hfit) (fun v hv => by rw [List.mem_singleton] at hv; subst hv; exact h1)
  simp only [Nat.add_zero] at hst
  have hadd : (⟨g, o, none⟩ : Addr).add (sLen * i.size) = ⟨g, o + sLen, none⟩ := by unfold Addr.add; simp [hs]
  rw [hs] at hf
  have hst2 : (storeCells ⟨g, o + sLen, none⟩ [u]).run P w = .ok () (w.setRow g (cur.toList.take (o + sLen) ++ [u] ++ cur.toList.drop (o + sLen + 1)).toArray) := hst
  simp [Builtin.append_, run_underlying ht, sizeOf, typeInfo, hi, Builtin.lenOf, hroom, hs, Addr.add_lit, hf, hst2]
theorem app_q {P : Program} (t : TypeId) (ht : Tryz.prog.underlying t = some (.slice 39)) (ty : TypeId) (hq : QRow B w bs ao n cap xs) (hn : n ≤ 1000000) (hB : B ≤ w.heap.size) (ad : Addr) (c x : Nat) (hx : w.cell? (ad.add 0) = some (.int .u8 (x : Int))) :
    ∃ ao' cap' w', (Builtin.append_ #[t, t] ty #[.slice ao n cap, .slice (some ad) 1 c]).run Tryz.prog w = .ok (.slice ao' (n + 1) cap') w' ∧ QRow B w' bs ao' (n + 1) cap' (xs ++ [x]) ∧ w.grownBy w' (ao.map (·.block)) := by
  obtain ⟨i0, hi0, hz0, hz1, hz2⟩ := info_parts info_inp
  have hnews : ∀ j v, ([Value.int .u8 (x : Int)] : List Value)[j]? = some v → w.cell? (ad.add j) = some v := fun j v hv => by
    cases j with
    | zero => cases hv; exact hx
    | succ j => simp at hv
  have hmade : ∀ (k : Nat) (cs : Array Value) (cap' : Nat), n + 1 ≤ cap' → cap' ≤ maxLen → cs.size = cap' → (∀ j (h : j < (xs ++ [x]).length), cs[0 + j]? = some (.int .u8 (((xs ++ [x])[j]'h : Nat) : Int))) →
      QRow B (w.drew.alloc (.cells cs 39)) bs (some ⟨w.heap.size, 0, Option.none⟩) (n + 1) cap' (xs ++ [x]) := fun k cs cap' h1 h2 h3 h4 =>
    ⟨by simp [hq.len], .inr ⟨w.heap.size, 0, cs, rfl, hB, fun b hb => Nat.ne_of_lt (hq.lo b hb), heap_alloc_new w.drew _, h1, h2, by omega, h4⟩, fun b hb => by have := hq.lo b hb; simp; omega⟩
  have hold : ∀ (xs : List Nat) (z : Array Value) j (h : j < (xs ++ [x]).length), ((xs.map fun y : Nat => Value.int .u8 (y : Int)).toArray ++ #[Value.int .u8 (x : Int)] ++ z)[0 + j]? = some (.int .u8 (((xs ++ [x])[j]'h : Nat) : Int)) := fun xs z j h => by
    rw [Nat.zero_add]
    have e : ((xs.map fun y : Nat => Value.int .u8 (y : Int)).toArray ++ #[Value.int .u8 (x : Int)] ++ z) = ((xs ++ [x]).map fun y : Nat => Value.int .u8 (y : Int)).toArray ++ z := by simp
    rw [e, Array.getElem?_append_left (by simpa using h), List.getElem?_toArray, List.getElem?_map, List.getElem?_eq_getElem h]
    rfl
  rcases hq.own with ⟨rfl, rfl, rfl⟩ | ⟨g, o, cur, rfl, e2, e3, e4, e5, e6, e7, e8⟩
  · have hx0 : xs = [] := List.eq_nil_of_length_eq_zero hq.len
    subst hx0
    have hr := run_append_nil w t ty 39 i0 (.int .u8 0) ht hi0 hz0 ad 1 c [.int .u8 (x : Int)] (by rw [hz1]; rfl) hnews (by omega) (by omega) (by rw [hz2]; omega)
    refine ⟨_, _, _, hr, ?_, ⟨rfl, rfl, rfl, by simp, fun k hk _ => Below.heap_alloc _ _ _ hk⟩⟩
    refine hmade 0 _ _ (grownCap_ge w 1 0 _) (grownCap_le_maxLen w 1 0 _ (by simp [maxLen])) ?_ ?_
    · have := grownCap_ge w 1 0 39
      simp [size_zeroCells, Value.cells]; omega
    · have := hold [] (Builtin.zeroCells (Value.int .u8 0).cells (grownCap w 1 0 39 - 1))
      simpa using this
  · rcases Nat.lt_or_ge n cap with hlt | hge
    · have hr := run_append_at w t ty 39 i0 ht hi0 hz1 g o n cap cur e4 ad c (.int .u8 (x : Int)) hx rfl (by omega) (by omega)
      refine ⟨_, _, _, hr, ⟨by simp [hq.len], .inr ⟨g, o, _, rfl, e2, e3, setRow_heap _ _ _ _ _ _ e4, by omega, e6, ?_, fun j hj => ?_⟩, fun b hb => by have := hq.lo b hb; simp [World.setRow]; omega⟩, grown_setRow _ _ _⟩
      · simp; omega
      · simp only [List.length_append, List.length_singleton] at hj
        have hln := hq.len
        simp only [List.getElem?_toArray]
        rw [List.append_assoc, List.getElem?_append]
        rcases Nat.lt_or_ge j n with hj2 | hj2
        · rw [if_pos (by simp; omega), List.getElem?_take, if_pos (by omega)]
          have := e8 j (by omega)
          rw [Array.getElem?_toList, this, List.getElem_append_left (by omega)]
        · obtain rfl : j = n := by omega
          rw [if_neg (by simp; omega)]
          simp only [List.length_take, Array.length_toList]
          rw [show o + j - min (o + j) cur.size = 0 by omega]
          simp [List.getElem_append_right, hln]
    · have hr := run_append_grow w t ty 39 i0 (.int .u8 0) ht hi0 hz0 ⟨g, o, Option.none⟩ n cap (xs.map fun y : Nat => Value.int .u8 (y : Int)) (by rw [hz1, List.length_map, hq.len, Nat.mul_one]) (fun j v hv => by
        have hj : j < xs.length := by
          rcases Nat.lt_or_ge j xs.length with h | h
          · exact h
          · rw [List.getElem?_eq_none (by simpa using h)] at hv; cases hv
        have hadd : (⟨g, o, Option.none⟩ : Addr).add j = ⟨g, o + j, Option.none⟩ := by unfold Addr.add; split <;> simp_all
        rw [hadd, cell_of_row w g (o + j) cur _ (0, 0) e4, e8 j hj, ← hv]
        simp [hj]) ad 1 c [.int .u8 (x : Int)] (by rw [hz1]; rfl) hnews (by omega) (by omega) (by rw [hz2]; have := growslice_fits (need := n + 1) (old := cap) (bytes := 1) (by omega) (by omega); omega)
      refine ⟨_, _, _, hr, ?_, ⟨rfl, rfl, rfl, by simp, fun k hk _ => Below.heap_alloc _ _ _ hk⟩⟩
      refine hmade 0 _ _ (grownCap_ge w (n + 1) cap _) (grownCap_le_maxLen w (n + 1) cap _ (by simp only [maxLen]; omega)) ?_ (hold xs _)
      have := grownCap_ge w (n + 1) cap 39
      have hln := hq.len
      simp [size_zeroCells, Value.cells]; omega
theorem wpList_append_q {ops : Array Oper} {rest : List Oper} {o : Oper} {a : Act} {Q : Exit → Act → World → Prop} (hgd : o.guard = .none) (s x : Operand) (t : TypeId) (ht : Tryz.prog.underlying t = some (.slice 39))
    (ho : o.op = .call { callee := .builtin .append, args := #[s, x], argTypes := #[t, t] }) (hs : a.eval s = .slice ao n cap) (z : Nat) (hx : a.eval x = .slice (some ⟨w.heap.size, 0, .none⟩) 1 1)
    (hq : QRow B w bs ao n cap xs) (hL : Loc B0 w0 w L) (hB : B0 ≤ B) (hB2 : B ≤ w.heap.size) (hbs : ∀ e ∈ L, e.1 ∈ bs) (hn : n ≤ 1000000)
    (h : ∀ ao' cap' w', QRow B w' bs ao' (n + 1) cap' (xs ++ [z]) → Loc B0 w0 w' L → (w.alloc (.cells #[.int .u8 (z : Int)] 39)).grownBy w' (ao.map (·.block)) → wpList Tryz.prog ops Q rest (a.put o.dst (.slice ao' (n + 1) cap')) w') :
    wpList Tryz.prog ops Q (o :: rest) a (w.alloc (.cells #[.int .u8 (z : Int)] 39)) := by
  refine wpList_plain hgd fun K hK => ?_
  have hal := below_alloc w (.cells #[.int .u8 (z : Int)] 39)
  have hc : (w.alloc (.cells #[.int .u8 (z : Int)] 39)).cell? ((⟨w.heap.size, 0, .none⟩ : Addr).add 0) = some (.int .u8 (z : Int)) := by
    have := (Cells.made w 39 #[.int .u8 (z : Int)]).cell 0
    simp [Addr.add]
  obtain ⟨ao', cap', w', hr, h2, h3⟩ := app_q (P := Tryz.prog) t ht o.type (hq.to hal) hn (Nat.le_trans hB2 hal.size) ⟨w.heap.size, 0, .none⟩ 1 z hc
  unfold Oper.wp execOp
  simp only [ho, resolve, invoke, builtin, Sem.run_bind, Sem.run_pure, Result.andThen_ok, List.map_toArray, List.map_cons, List.map_nil, hs, hx, hr]
  exact hK _ _ (h ao' cap' w' h2 ((hL.to hal).ownQ hB (hq.to hal) hbs h3) h3)
end
end Go.Proofs.YthnelnfefllhpaaGreatDoor
/- The statement SegmentOrder: the Go function returns true. Conditions: the table of four steps lies in its variable. -/
namespace Go.Proofs.YthnelnfefllhpaaGreatDoor
open Go.RowKit
set_option linter.unusedVariables false
set_option linter.unusedSimpArgs false
set_option maxRecDepth 20000

/-- The own inputs whose pairs are not yet sure. -/
def win (x : Sg) : List Nat := (List.range (x.o - x.c)).map fun j => inp x.l (x.c + j)
theorem win_len (x : Sg) : (win x).length = x.o - x.c := by simp [win]
theorem goes_at {n : Nat} : ∀ {l : List Rc} {x : Sg} (i : Nat) (hi : i < l.length), Goes n x l → (l[i]'hi).fit ∧ mayB (l[i]'hi) = true ∧ tkS n (runS x (l.take i)) (l[i]'hi) = 0
  | r :: l, x, 0, _, ⟨h1, h2, h3, _⟩ => ⟨h1, h2, h3⟩
  | r :: l, x, i + 1, hi, ⟨_, _, _, h4⟩ => by
    rw [List.take_succ_cons, runS_cons]
    exact goes_at i (by simpa using hi) h4
theorem run_at {l : List Rc} {x : Sg} {i : Nat} (hi : i < l.length) : runS x (l.take (i + 1)) = adS (runS x (l.take i)) (l[i]'hi) := by
  rw [List.take_succ_eq_append_getElem hi, runS_snoc]
theorem step_kind {n : Nat} {x : Sg} {r : Rc} (hb : x.b = true) (hm : mayB r = true) (h : tkS n x r = 0) : (r.k = 1 ∧ r.f = x.o ∧ x.o - x.c < 12 ∧ r.f ≠ 18446744073709551615 ∧ adS x r = ⟨x.b, x.h, x.l ++ [r], x.c, x.o + 1⟩) ∨ (r.k = 2 ∧ r.f = x.c ∧ x.c < x.o ∧ side r x.h.y = inp x.l x.c ∧ adS x r = ⟨x.b, x.h, x.l ++ [r], x.c + 1, x.o⟩) := by
  have hk := may_k hm
  unfold tkS at h
  unfold adS
  by_cases k3 : r.k = 3
  · rw [if_pos k3, if_pos (.inl hb)] at h; cases h
  · rw [if_neg k3, if_neg (by rw [hb]; decide)] at h
    rw [if_neg k3]
    by_cases k1 : r.k = 1
    · rw [if_pos k1] at h ⊢
      split at h
      · cases h
      · exact .inl ⟨k1, by omega, by omega, by omega, rfl⟩
    · rw [if_neg k1] at h ⊢
      split at h
      · cases h
      · split at h
        · cases h
        · rename_i hc hs
          have e : r.f = x.c := by omega
          exact .inr ⟨by omega, e, by omega, by rw [← e]; exact Classical.not_not.1 hs, rfl⟩
theorem win_own {x : Sg} {r : Rc} (hc : x.c ≤ x.o) (k1 : r.k = 1) (hf : r.f = x.o) : win ⟨x.b, x.h, x.l ++ [r], x.c, x.o + 1⟩ = win x ++ [r.o] := by
  unfold win
  show (List.range (x.o + 1 - x.c)).map (fun j => inp (x.l ++ [r]) (x.c + j)) = _
  rw [show x.o + 1 - x.c = (x.o - x.c) + 1 by omega, List.range_succ, List.map_append, List.map_singleton, inp_snoc, if_pos ⟨k1, by omega⟩]
  congr 1
  refine List.map_congr_left fun j hj => ?_
  rw [List.mem_range] at hj
  rw [inp_snoc, if_neg (by rintro ⟨_, h⟩; omega)]
theorem win_sure {x : Sg} {r : Rc} (hc : x.c < x.o) (k1 : r.k ≠ 1) : win x = inp x.l x.c :: win ⟨x.b, x.h, x.l ++ [r], x.c + 1, x.o⟩ := by
  unfold win
  show _ = inp x.l x.c :: (List.range (x.o - (x.c + 1))).map (fun j => inp (x.l ++ [r]) (x.c + 1 + j))
  rw [show x.o - x.c = (x.o - (x.c + 1)) + 1 by omega, List.range_succ_eq_map, List.map_cons, List.map_map]
  congr 1
  refine List.map_congr_left fun j hj => ?_
  show inp x.l (x.c + (j + 1)) = _
  rw [inp_snoc, if_neg (fun h => k1 h.1), show x.c + (j + 1) = x.c + 1 + j by omega]
theorem runS_head {n : Nat} : ∀ {l : List Rc} {x : Sg}, Goes n x l → x.b = true → (runS x l).h = x.h ∧ (runS x l).b = true
  | [], x, _, hb => ⟨rfl, hb⟩
  | r :: l, x, ⟨h1, h2, h3, h4⟩, hb => by
    rcases step_kind hb h2 h3 with ⟨_, _, _, _, e⟩ | ⟨_, _, _, _, e⟩ <;>
    · obtain ⟨a, b⟩ := runS_head h4 (by rw [e]; exact hb)
      rw [runS_cons, a, e]
      exact ⟨rfl, by rw [← e]; exact b⟩
theorem str_eq2 {a b c : List UInt8} (h : a ++ b = c) : ((str (a ++ b)).toList == (str c).toList) = true := by subst h; simp
end Go.Proofs.YthnelnfefllhpaaGreatDoor
/- The records that a play makes: they go on and agree. -/
namespace Go.Proofs.YthnelnfefllhpaaGreatDoor
open Go.RowKit
set_option linter.unusedVariables false
set_option linter.unusedSimpArgs false
set_option maxRecDepth 20000

theorem ty_inps2 : TyO 58 := tyo_of Tryz.underlying58 rfl (by kernel_rfl)
theorem ty_play : TyA 25 3 := tya_struct Tryz.underlying25 (by kernel_rfl)
theorem ty_u16s : TyO 23 := tyo_of Tryz.underlying23 rfl (by kernel_rfl)
theorem ld_play (v : Value) : Instr.loadAt 25 v = ldT 25 v := rfl
theorem ld_u16s (v : Value) : Instr.loadAt 23 v = ldT 23 v := rfl
/-- Numbers of a play, where they can be read. -/
def U16s (w : World) (a : Option Addr) (L : List Nat) : Prop := ∀ k (h : k < L.length), (L[k]'h) < 65536 ∧ ∃ b o, a = some ⟨b, o, none⟩ ∧ w.cell? ⟨b, o + k, none⟩ = some (.int .u16 ((L[k]'h : Nat) : Int))
theorem U16s.new {w w' : World} {a : Option Addr} {L : List Nat} (h : U16s w a L) (hb : Below w.heap.size w w') : U16s w' a L := fun k hk => by
  obtain ⟨h1, b, o, e, hc⟩ := h k hk
  refine ⟨h1, b, o, e, ?_⟩
  rw [World.cell?_of_block (w := w) (hb.block b (World.block_lt_of_cell? w _ hc))]
  exact hc
def hd (f y : Nat) : Rc := ⟨3, 0, 0, 0, 0, 1, f, 1, y⟩
theorem hd_ok {f y : Nat} (hf : f < 18446744073709551616) (hy : y < 2) : (hd f y).fit ∧ mayB (hd f y) = true :=
  ⟨⟨by simp [hd], by simp [hd], by simp [hd], by simp [hd], by simp [hd], by simp [hd], by simp [hd], hf, by simp [hd], by show y < 256; omega⟩, by simp [mayB, lowB, hd, hy]⟩
/-- How far it has come: the records, what they say, the first frame, how many numbers were gone through, the player. -/
structure MadeI (f j y : Nat) (l : List Rc) (x : Sg) (m : Nat) : Prop where
  run : x = runS sg0 l
  goes : Goes 1 sg0 l
  one : 0 < l.length
  num : m = x.o - x.c
  cnt : l.length + 2 * f = 1 + x.o + x.c
  fc : f ≤ x.c
  co : x.c ≤ x.o
  of : x.o ≤ f + j
  m12 : m ≤ 12
  hy : x.h.y = y
  hb : x.b = true
  lt : ∀ q, inp x.l q < 64
theorem made_start {f y : Nat} (hf : f < 18446744073709551616) (hy : y < 2) : MadeI f 0 y [hd f y] ⟨true, hd f y, [], f, f⟩ 0 := by
  have hg : Goes 1 sg0 [hd f y] := ⟨(hd_ok hf hy).1, (hd_ok hf hy).2, by unfold tkS; rw [if_pos (show (hd f y).k = 3 from rfl), if_neg (by simp [sg0, hd])], trivial⟩
  exact ⟨rfl, hg, by simp, (Nat.sub_self _).symm, by simp; omega, Nat.le_refl _, Nat.le_refl _, Nat.le_refl _, by omega, rfl, rfl, fun q => by show inp [] q < 64; simp [inp]⟩
theorem made_own {f j y m u : Nat} {l : List Rc} {x : Sg} (h : MadeI f j y l x m) (hm : m < 12) (hf : f + j < 18446744073709551615) (hu : u < 64) : MadeI f (j + 1) y (l ++ [rO x.o u]) ⟨x.b, x.h, x.l ++ [rO x.o u], x.c, x.o + 1⟩ (m + 1) ∧ win ⟨x.b, x.h, x.l ++ [rO x.o u], x.c, x.o + 1⟩ = win x ++ [u] := by
  have h1 := h.num
  have h2 := h.of
  have h3 := h.co
  have hr := rO_ok (f := x.o) (i := u) (by omega) hu
  have ht : tkS 1 x (rO x.o u) = 0 := by
    unfold tkS
    rw [if_neg (by simp [rO]), if_neg (by rw [h.hb]; decide), if_pos (show (rO x.o u).k = 1 from rfl), if_neg (by simp only [rO]; omega)]
  have ha : adS x (rO x.o u) = ⟨x.b, x.h, x.l ++ [rO x.o u], x.c, x.o + 1⟩ := by
    unfold adS
    rw [if_neg (by simp [rO]), if_pos (show (rO x.o u).k = 1 from rfl)]
  refine ⟨⟨by rw [runS_snoc, ← h.run, ha], goes_snoc.2 ⟨h.goes, hr.1, hr.2, by rw [← h.run]; exact ht⟩, by simp, by show _ = x.o + 1 - x.c; omega, by have := h.cnt; simp; omega, h.fc, by show x.c ≤ x.o + 1; omega, by show x.o + 1 ≤ _; omega, by omega, h.hy, h.hb, fun q => ?_⟩, win_own h3 rfl rfl⟩
  show inp (x.l ++ [rO x.o u]) q < 64
  rw [inp_snoc]
  split
  · exact hu
  · exact h.lt q
theorem made_sure {f j y m : Nat} {l : List Rc} {x : Sg} {r : Rc} (h : MadeI f j y l x m) (hm : 0 < m) (hr : r.fit ∧ mayB r = true) (hk : r.k = 2) (hf : r.f = x.c) (hs : side r y = inp x.l x.c) : MadeI f j y (l ++ [r]) ⟨x.b, x.h, x.l ++ [r], x.c + 1, x.o⟩ (m - 1) ∧ win x = inp x.l x.c :: win ⟨x.b, x.h, x.l ++ [r], x.c + 1, x.o⟩ := by
  have h1 := h.num
  have h2 := h.of
  have h3 := h.co
  have ht : tkS 1 x r = 0 := by
    unfold tkS
    rw [if_neg (by omega), if_neg (by rw [h.hb]; decide), if_neg (by omega), if_neg (by omega), if_neg (by rw [h.hy, hf]; exact fun e => e hs)]
  have ha : adS x r = ⟨x.b, x.h, x.l ++ [r], x.c + 1, x.o⟩ := by
    unfold adS
    rw [if_neg (by omega), if_neg (by omega)]
  refine ⟨⟨by rw [runS_snoc, ← h.run, ha], goes_snoc.2 ⟨h.goes, hr.1, hr.2, by rw [← h.run]; exact ht⟩, by simp, by show _ = x.o - (x.c + 1); omega, by have := h.cnt; simp; omega, by show f ≤ x.c + 1; have := h.fc; omega, by show x.c + 1 ≤ x.o; omega, h.of, by have := h.m12; omega, h.hy, h.hb, fun q => ?_⟩, win_sure (by omega) (by omega)⟩
  show inp (x.l ++ [r]) q < 64
  rw [inp_snoc, if_neg (fun e => by omega)]
  exact h.lt q
theorem made_more {f j y m : Nat} {l : List Rc} {x : Sg} (h : MadeI f j y l x m) : MadeI f (j + 1) y l x m :=
  ⟨h.run, h.goes, h.one, h.num, h.cnt, h.fc, h.co, by have := h.of; omega, h.m12, h.hy, h.hb, h.lt⟩
section
variable {T : TypeId} {B B' : Nat} {w w' : World} {bs bs' : List Nat} {ao ao2 : Option Addr} {n cap m cp : Nat} {l : List Rc} {xs : List Nat}
/-- The two rows have cells of types unlike. -/
theorem Rcr.unlike (h : Rcr T B w bs ao n cap l) (hq : QRow B' w bs' ao2 m cp xs) (hT : T ≠ 39) {g : Nat} (hg : (Value.slice ao n cap).ownBlock = some g) : ao2.map (·.block) ≠ some g := by
  rcases hq.own with ⟨rfl, _⟩ | ⟨g2, o, cur, rfl, _, _, h4, _⟩
  · intro e; cases e
  · intro e
    have e : g2 = g := by simpa using e
    subst e
    rcases h.own.2 with ⟨hv, _⟩ | ⟨g3, cap3, cur3, hv, _, h6, _⟩
    · rw [hv] at hg; cases hg
    · rw [hv] at hg
      have e : g3 = g2 := by simpa [Value.ownBlock] using hg
      subst e
      rw [h4] at h6
      simp at h6
      exact hT h6.2.symm
theorem QRow.keep (h : QRow B w bs ao2 m cp xs) {row : Option Nat} (hb : w.grownBy w' row) (hne : ∀ g, row = some g → ao2.map (·.block) ≠ some g) : QRow B w' bs ao2 m cp xs :=
  ⟨h.len, h.own.imp id fun ⟨g, o, cur, h1, h2, h3, h4, h5⟩ => ⟨g, o, cur, h1, h2, h3, (hb.block g (Array.getElem?_eq_some_iff.1 h4).1 (fun e => hne g e.symm (by rw [h1]; rfl))).trans h4, h5⟩, fun b hbb => Nat.lt_of_lt_of_le (h.lo b hbb) hb.size⟩
theorem Rcr.keep (h : Rcr T B w bs ao n cap l) {row : Option Nat} (hb : w.grownBy w' row) (hne : (Value.slice ao n cap).ownBlock = Option.none ∨ (Value.slice ao n cap).ownBlock ≠ row) : Rcr T B w' bs ao n cap l :=
  ⟨h.own.kept hb hne, h.len, h.far, fun b hbb => Nat.lt_of_lt_of_le (h.lo b hbb) hb.size⟩
theorem Rcr.first {r : Rc} (hB : B ≤ w.heap.size) (hbs : ∀ b ∈ bs, b < w.heap.size) : Rcr T B (w.alloc (.cells (rcs r) T)) bs (some ⟨w.heap.size, 0, Option.none⟩) 1 1 [r] := by
  refine ⟨⟨by simp [Rall_len], .inr ⟨w.heap.size, 1, rcs r, rfl, hB, heap_alloc_new w _, Nat.le_refl _, by simp [maxLen], rfl, by rw [Rall_one]; simp [rcs]⟩⟩, rfl, fun b hb e => ?_, fun b hb => by have := hbs b hb; simp; omega⟩
  have e : w.heap.size = b := by simpa [Value.ownBlock] using e
  have := hbs b hb
  omega
end
section
variable {T TS : TypeId} {B B0 : Nat} {w0 w w' : World} {L L' : List (Nat × TypeId × Array Value)} {bs : List Nat} {ao : Option Addr} {n cap : Nat} {l : List Rc}
/-- append(row, record), and what has turned by it. -/
theorem wpList_append_recG {ops : Array Oper} {rest : List Oper} {o : Oper} {a : Act} {Q : Exit → Act → World → Prop} (hu : Tryz.prog.underlying TS = some (.slice T)) (hi : (Tryz.prog.info? T).map (fun i => (i.zero, i.size, i.bytes)) = some (some (.agg (rcs rz)), 9, 56)) (hgd : o.guard = none) (s x : Operand)
    (ho : o.op = .call { callee := .builtin .append, args := #[s, x], argTypes := #[TS, TS] }) (hs : a.eval s = .slice ao n cap) (r : Rc) (hx : a.eval x = .slice (some ⟨w.heap.size, 0, none⟩) 1 1)
    (hR : Rcr T B w bs ao n cap l) (hL : Loc B0 w0 w L) (hB : B0 ≤ B) (hB2 : B ≤ w.heap.size) (hbs : ∀ e ∈ L, e.1 ∈ bs) (hn : n ≤ 1000000)
    (h : ∀ r' cap' w', Rcr T B w' bs (some ⟨r', 0, none⟩) (n + 1) cap' (l ++ [r]) → Loc B0 w0 w' L → (w.alloc (.cells (rcs r) T)).grownBy w' (Value.slice ao n cap).ownBlock → wpList Tryz.prog ops Q rest (a.put o.dst (.slice (some ⟨r', 0, none⟩) (n + 1) cap')) w') :
    wpList Tryz.prog ops Q (o :: rest) a (w.alloc (.cells (rcs r) T)) := by
  refine wpList_plain hgd fun K hK => ?_
  obtain ⟨i0, hi0, hz0, hz1, hz2⟩ := info_parts hi
  have hal : w.grownBy (w.alloc (.cells (rcs r) T)) none := grown_alloc _ _
  have hR1 : Rcr T B (w.alloc (.cells (rcs r) T)) bs ao n cap l := hR.to (below_of_grown hal)
  have hL1 : Loc B0 w0 (w.alloc (.cells (rcs r) T)) L := hL.grown hal
  have hc : Cells (w.alloc (.cells (rcs r) T)) w.heap.size T (rcs r) := Cells.made w _ _
  refine wp_append_lies (w.alloc (.cells (rcs r) T)) s x TS ho B T i0 (.agg (rcs rz)) 9 56 hu hi0 hz0 hz1 hz2 rfl (by decide) (.slice ao n cap) n (Rall l) hs hR1.own ⟨w.heap.size, 0, none⟩ 1 1 (rcs r).toList hx rfl (fun j u hu => ?_) (rcs_one r) (by decide) (by simp only [maxLen]; omega) (by omega) (by have := hal.size; omega) _ rfl ?_
  · have hadd : (⟨w.heap.size, 0, none⟩ : Addr).add j = ⟨w.heap.size, j, none⟩ := by unfold Addr.add; split <;> simp_all
    rw [hadd, hc.cell, ← Array.getElem?_toList]; exact hu
  · intro g' cap' w1 hown1 hgr hat hlt1
    rw [← Rall_snoc] at hown1
    refine hK _ _ (h g' cap' w1 ⟨hown1, by simp [hR.len], fun b hb e => ?_, fun b hb => Nat.lt_of_lt_of_le (hR1.lo b hb) hgr.size⟩ (hL1.ownR hB hR1 hbs hgr) hgr)
    have e : g' = b := by simpa [Value.ownBlock] using e
    subst e
    rcases hat with hat | hat
    · exact hR.far g' hb hat
    · have h1 := hR1.lo g' hb
      omega
end
end Go.Proofs.YthnelnfefllhpaaGreatDoor
