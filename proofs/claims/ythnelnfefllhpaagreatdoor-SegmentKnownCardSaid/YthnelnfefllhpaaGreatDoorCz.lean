/- Texts of elder layers, one behind the other. -/
import Derived.Test.YthnelnfefllhpaaGreatDoorBz
import Derived.Test.YthnelnfefllhpaaGreatDoorNz
import Derived.Test.YthnelnfefllhpaaGreatDoorDz
import Derived.Test.YthnelnfefllhpaaGreatDoorPz
/- What a file has of a record, by the program. -/
namespace Go.Proofs.YthnelnfefllhpaaGreatDoor
open Go.RowKit
set_option linter.unusedVariables false
set_option linter.unusedSimpArgs false
set_option maxRecDepth 20000

/-- May it stand there: as the first one, as another one? -/
def okB (r : Rc) (first : Bool) : Bool := mayB r && (decide (r.k = 3) == first)
theorem okB_iff {r : Rc} {first : Bool} : okB r first = true ↔ mayB r = true ∧ decide (r.k = 3) = first := by
  unfold okB
  rw [Bool.and_eq_true, beq_iff_eq]
def bA (r : Rc) (first : Bool) : List UInt8 := if okB r first = true then byR r else []
def bE (r : Rc) (first : Bool) : Int := if okB r first = true then 0 else 4
attribute [local go_sem ↓] ld_rec st_rec ld_int
set_option maxHeartbeats 2000000 in
theorem bytes_c (r : Rc) (first : Bool) (w : World) (hf : r.fit) (ht : Tab w) :
    Calls Tryz.prog 33 #[.agg (rcs r), .bool first] w fun E w' => E = .returned (.tuple #[.string (str (bA r first)), .int .i64 (bE r first)]) ∧ Below w.heap.size w w' := by
  have HT := Lib.hid ht
  have HF := Lib.hid hf
  have H0 := Lib.hid (Loc.one w 43 (rcs r))
  have h0 : str [] = ⟨#[]⟩ := rfl
  clear ht hf
  by_cases hm : mayB r = true
  · have HP : Hid (∀ w, Calls Tryz.prog 42 #[.agg (rcs r)] w fun E w' => E = .returned (.tuple #[.string (str (encR r)), .int .i64 0]) ∧ Below w.heap.size w w') := fun w => by
      have := put_c r w HF.out
      rwa [(pA_of hm).1, (pA_of hm).2] at this
    have HQ : Hid (∀ w, Tab w → Calls Tryz.prog 21 #[.string (str (encR r))] w fun E w' => E = .returned (.tuple #[.string (str (byR r)), .int .i64 0]) ∧ Below w.heap.size w w') := fun w ht => by
      have := fput_c (encR r) w (Nat.le_trans (encR_le r) (by decide)) ht
      rw [(putS_of r).1, (putS_of r).2] at this
      exact this.mono fun E w' ⟨h1, h2⟩ => ⟨h1, below_of_grown h2⟩
    by_cases hk : decide (r.k = 3) = first
    · have hA : bA r first = byR r := if_pos (okB_iff.2 ⟨hm, hk⟩)
      have hE : bE r first = 0 := if_pos (okB_iff.2 ⟨hm, hk⟩)
      rw [hA, hE]
      have hkk : (r.k == 3) = first := by rw [← hk]; by_cases h : r.k = 3 <;> simp [h]
      clear hA hE hm hk
      go_enter Tryz.func33, Tryz.ntmps33
      go_upto_region 1 with fail
      generalize w.alloc (.cells (rcs r) 43) = wa at *
      have l0 := H0.out.ldA ty_rec 0 rfl 0 (vs := rcs r) (by simp [rcs]) (Nat.le_of_ble_eq_true rfl)
      go_wp2_with fail
      refine (HP.out _).mono ?_
      rintro E w1 ⟨rfl, hb1⟩
      have H1 := Lib.hid (H0.out.to hb1)
      clear hb1 l0
      have l1 := H1.out.ldO ty_int 0 rfl 0 (v := .int .i64 r.k) rfl
      go_wp2_with fail
      refine (HQ.out _ (tab_b HT.out HT.out.1 H1.out.be)).mono ?_
      rintro E w2 ⟨rfl, hb2⟩
      have H2 := Lib.hid (H1.out.be.trans (hb2.mono H1.out.size))
      clear hb2
      go_wp2
      go_ret2
      exact ⟨rfl, H2.out⟩
    · have hA : bA r first = [] := if_neg (fun h => hk (okB_iff.1 h).2)
      have hE : bE r first = 4 := if_neg (fun h => hk (okB_iff.1 h).2)
      rw [hA, hE]
      have hkk : (r.k == 3) = !first := by
        by_cases h : r.k = 3
        · cases first <;> simp [h] at hk ⊢
        · cases first <;> simp [h] at hk ⊢
      clear hA hE hm hk HQ
      go_enter Tryz.func33, Tryz.ntmps33
      go_upto_region 1 with fail
      generalize w.alloc (.cells (rcs r) 43) = wa at *
      have l0 := H0.out.ldA ty_rec 0 rfl 0 (vs := rcs r) (by simp [rcs]) (Nat.le_of_ble_eq_true rfl)
      go_wp2_with fail
      refine (HP.out _).mono ?_
      rintro E w1 ⟨rfl, hb1⟩
      have H1 := Lib.hid (H0.out.to hb1)
      clear hb1 l0
      have l1 := H1.out.ldO ty_int 0 rfl 0 (v := .int .i64 r.k) rfl
      go_wp2
      go_ret2
      exact ⟨rfl, H1.out.be⟩
  · have HP : Hid (∀ w, Calls Tryz.prog 42 #[.agg (rcs r)] w fun E w' => E = .returned (.tuple #[.string (str []), .int .i64 4]) ∧ Below w.heap.size w w') := fun w => by
      have := put_c r w HF.out
      rwa [show pA r = [] from if_neg hm, show pE r = 4 from if_neg hm] at this
    have hA : bA r first = [] := if_neg (fun h => hm (okB_iff.1 h).1)
    have hE : bE r first = 4 := if_neg (fun h => hm (okB_iff.1 h).1)
    rw [hA, hE]
    clear hA hE hm
    go_enter Tryz.func33, Tryz.ntmps33
    go_upto_region 1 with fail
    generalize w.alloc (.cells (rcs r) 43) = wa at *
    have l0 := H0.out.ldA ty_rec 0 rfl 0 (vs := rcs r) (by simp [rcs]) (Nat.le_of_ble_eq_true rfl)
    go_wp2_with fail
    refine (HP.out _).mono ?_
    rintro E w1 ⟨rfl, hb1⟩
    have H1 := Lib.hid (H0.out.to hb1)
    clear hb1 l0
    go_wp2
    go_ret2
    exact ⟨rfl, H1.out.be⟩
end Go.Proofs.YthnelnfefllhpaaGreatDoor
/- What a file of records has, by the program. -/
namespace Go.Proofs.YthnelnfefllhpaaGreatDoor
open Go.RowKit
set_option linter.unusedVariables false
set_option linter.unusedSimpArgs false
set_option maxRecDepth 20000

/-- May they stand in a file: a Head, and others? -/
def wok (h : Rc) (l : List Rc) : Bool := okB h true && l.all (okB · false)
def wA (h : Rc) (l : List Rc) : List UInt8 := if wok h l = true then bys (h :: l) else []
def wE (h : Rc) (l : List Rc) : Int := if wok h l = true then 0 else 4
theorem join_none (xs : List (List UInt8)) : Lib.join xs [] = xs.flatten := by
  cases xs with
  | nil => rfl
  | cons x r => rw [Lib.join_cons]; simp [Lib.joinTail]
theorem lst_push {w1 w2 wa : World} {B : Nat} {v v2 : Value} {l : List (List UInt8)} {n : List UInt8} (hr : w2.ownsRow B 9 1 v2 (l.length + 1) (l.map (fun n => .string (str n)) ++ [.string (str n)])) : Lst w2 B v2 (l ++ [n]) := by
  unfold Lst
  rw [List.map_append, List.length_append]
  exact hr
attribute [local go_sem ↓] ld_rec st_rec
set_option maxHeartbeats 4000000 in
theorem whole_c (h : Rc) (l : List Rc) (ao : Option Addr) (cap : Nat) (w : World) (hf : h.fit) (hl : ∀ r ∈ l, r.fit) (hn : l.length ≤ 900) (ha : RcsAt w ao l) (ht : Tab w) :
    Calls Tryz.prog 25 #[.agg (rcs h), .slice ao l.length cap] w fun E w' => E = .returned (.tuple #[.string (str (wA h l)), .int .i64 (wE h l)]) ∧ Below w.heap.size w w' := by
  have HT := Lib.hid ht
  have HF := Lib.hid hf
  have HLF := Lib.hid hl
  have HA := Lib.hid ha
  have H0 := Lib.hid (Loc.one w 43 (rcs h))
  have h0 : str [] = ⟨#[]⟩ := rfl
  obtain ⟨Q, hQ⟩ : ∃ Q : Ending → World → Prop, Q = fun E w' => E = .returned (.tuple #[.string (str (wA h l)), .int .i64 (wE h l)]) ∧ Below w.heap.size w w' := ⟨_, rfl⟩
  rw [← hQ]
  have HQ := Lib.hid hQ
  clear ht hf hl ha hQ
  by_cases h1 : okB h true = true
  · have HB : Hid (bA h true = byR h ∧ bE h true = 0) := ⟨if_pos h1, if_pos h1⟩
    have H1 := Lib.hid h1
    clear h1
    go_enter Tryz.func25, Tryz.ntmps25
    go_upto_region 1 with fail
    generalize w.alloc (.cells (rcs h) 43) = wa at *
    have l0 := H0.out.ldA ty_rec 0 rfl 0 (vs := rcs h) (by simp [rcs]) (Nat.le_of_ble_eq_true rfl)
    go_wp2_with fail
    refine (bytes_c h true _ HF.out (tab_b HT.out HT.out.1 H0.out.be)).mono ?_
    rintro E w1 ⟨rfl, hb1⟩
    rw [HB.out.1, HB.out.2]
    have HB1 := Lib.hid (H0.out.be.trans (hb1.mono H0.out.size))
    have HA1 := Lib.hid (HA.out.new HB1.out)
    clear hb1 l0 H0
    have hL0 : Lst (w1.alloc (.cells #[.string (str (byR h))] 9)) w.heap.size (.slice (some ⟨w1.heap.size, 0, none⟩) 1 1) [byR h] :=
      ⟨rfl, .inr ⟨w1.heap.size, 1, #[.string (str (byR h))], rfl, HB1.out.size, heap_alloc_new w1 _, Nat.le_refl _, by simp [maxLen], rfl, by simp⟩⟩
    have HL0 := Lib.hid hL0
    have HB2 := Lib.hid (HB1.out.alloc HB1.out.size (.cells #[.string (str (byR h))] 9))
    clear hL0
    go_wp2
    go_loopw [25, 8, 4, 5] (fun iv pv sv ev wr => ∃ (k : Nat) (ao2 : Option Addr) (cp : Nat), k ≤ l.length ∧ iv = .int .i64 (k : Int) ∧ pv = .slice ao2 (k + 1) cp ∧ sv = .string (str []) ∧ ev = .int .i64 0 ∧ Hid ((l.take k).all (okB · false) = true) ∧ Hid (Lst wr w.heap.size (.slice ao2 (k + 1) cp) (byR h :: (l.take k).map byR)) ∧ Hid (Below w.heap.size w wr)) (fun iv _ _ _ _ => l.length - (intOf iv).toNat)
    case atStart => exact ⟨0, some ⟨w1.heap.size, 0, none⟩, 1, Nat.zero_le _, rfl, rfl, by rw [h0], rfl, by show _ = _; simp, by show Lst _ _ _ _; simpa using HL0.out, HB2.out⟩
    case round =>
      obtain ⟨k, ao2, cp, hk, rfl, rfl, rfl, rfl, HOK, HLs, HB3⟩ := hrel
      by_cases hlt : k < l.length
      · obtain ⟨b, o, rfl, hload⟩ := HA.out.one hlt
        have l1 := (hload _ HB3.out).1 _ ty_rec
        have hrf := HLF.out _ (List.getElem_mem hlt)
        have HTK := Lib.hid (List.take_add_one (l := l) (i := k))
        have hg := List.getElem?_eq_getElem hlt
        have HG := Lib.hid hg
        have HLT := Lib.hid hlt
        clear hg hload
        generalize l[k]'hlt = r at *
        obtain ⟨g5, w5, z5, s5, h5, q5⟩ := (Loc.nil (Nat.le_refl wr.heap.size)).newA ty_rec #[.int .i64 0, .int .u64 0, .int .u8 0, .int .u8 0, .int .u8 0, .int .u64 0, .int .u64 0, .int .u64 0, .int .u8 0] (rcs r) rfl rfl (List.all_eq_true.2 (rcs_one r))
        have l5 := h5.ldA ty_rec 0 rfl 0 (vs := rcs r) (by simp [rcs]) (Nat.le_of_ble_eq_true rfl)
        have HB5 := Lib.hid (HB3.out.trans ((below_of_grown q5).mono HB3.out.size))
        have HL5 := Lib.hid (HLs.out.new (below_of_grown q5))
        have HRF := Lib.hid hrf
        clear h5 q5 hrf
        by_cases h2 : okB r false = true
        · have HBr : Hid (bA r false = byR r ∧ bE r false = 0) := ⟨if_pos h2, if_pos h2⟩
          have H2 := Lib.hid h2
          clear h2
          go_wp2_with fail
          refine (bytes_c r false _ HRF.out (tab_b HT.out HT.out.1 HB5.out)).mono ?_
          rintro E w6 ⟨rfl, hb6⟩
          rw [HBr.out.1, HBr.out.2]
          have HB6 := Lib.hid (HB5.out.trans (hb6.mono HB5.out.size))
          have HL6 := Lib.hid (HL5.out.new hb6)
          clear hb6 l1 l5 s5 z5
          obtain ⟨i0, hi0, hz0, hz1, hz2⟩ := info_parts info_st
          have HI0 := Lib.hid hi0
          have HZ0 := Lib.hid hz0
          have HZ1 := Lib.hid hz1
          have HZ2 := Lib.hid hz2
          clear hi0 hz0 hz1 hz2
          have hlen : (byR h :: (l.take k).map byR).length = k + 1 := by simp; omega
          have HLN := Lib.hid hlen
          have hb1 : (k + 1) + 1 ≤ maxLen := by simp only [maxLen]; omega
          have hb2 : ((k + 1) + 1) * 16 ≤ 140737488355328 := by omega
          have hown : w6.ownsRow w.heap.size 9 1 (.slice ao2 (k + 1) cp) (k + 1) ((byR h :: (l.take k).map byR).map fun n => .string (str n)) := by have := HL6.out; unfold Lst at this; rwa [hlen] at this
          clear hlen
          go_wp2_with (at_builtin; refine wpList_append_lies _ rfl (.tmp 37) (.tmp 39) 109 rfl w.heap.size 9 i0 (.string ⟨#[]⟩) 1 16 Tryz.underlying109 HI0.out HZ0.out HZ1.out HZ2.out rfl (by decide) _ (k + 1) _ (by simp [Act.eval]) (World.ownsRow.alloc hown _) ⟨w6.heap.size, 0, none⟩ 1 1 [.string (str (byR r))] (by simp [Act.eval]) rfl (cell_one_new _ _ _) (by simp [Value.oneCell']) (by decide) hb1 hb2 (by have := HB6.out.size; simp; omega) _ rfl ?_; intro g' cap' w7 hown1 hgr hat2 hlt1)
          have HB7 := Lib.hid ((HB6.out.alloc HB6.out.size (.cells #[.string (str (byR r))] 9)).grown hgr (by have := HB6.out.size; simp; omega) (fun k e => (hown.lt k e).1))
          have HO7 := Lib.hid hown1
          clear hgr hat2 hown1 hlt1 hown
          go_wp2
          go_roundw
          case rel =>
            have hlt := HLT.out
            refine ⟨k + 1, _, _, hlt, by go_num, rfl, by rw [h0], rfl, ?_, ?_, HB7.out⟩
            · show _ = _
              rw [HTK.out, HG.out, List.all_append, HOK.out]
              simpa using H2.out
            · show Lst _ _ _ _
              rw [HTK.out, HG.out, Option.toList_some, List.map_append, ← List.cons_append]
              have hx := HO7.out
              unfold Lst
              rw [List.map_append, List.length_append, HLN.out]
              exact hx
          case measure => have := HLT.out; simp [intOf]; omega
        · have HBr : Hid (bA r false = [] ∧ bE r false = 4) := ⟨if_neg h2, if_neg h2⟩
          have HN : Hid (wok h l = false) := by
            show _ = _
            unfold wok
            rw [Bool.and_eq_false_iff]
            refine .inr (Bool.eq_false_iff.2 fun h3 => h2 ?_)
            rw [List.all_eq_true] at h3
            exact h3 r (List.mem_of_getElem? HG.out)
          clear h2
          go_wp2_with fail
          refine (bytes_c r false _ HRF.out (tab_b HT.out HT.out.1 HB5.out)).mono ?_
          rintro E w6 ⟨rfl, hb6⟩
          rw [HBr.out.1, HBr.out.2]
          have HB6 := Lib.hid (HB5.out.trans (hb6.mono HB5.out.size))
          clear hb6 l1 l5 s5 z5
          go_wp2
          rw [HQ.out]
          refine ⟨?_, HB6.out⟩
          unfold wA wE
          rw [HN.out]
          rfl
      · obtain rfl : k = l.length := by omega
        have HJ : Hid (Lib.join (byR h :: (l.take l.length).map byR) [] = bys (h :: l)) := by
          show _ = _
          rw [join_none, List.take_length]; rfl
        have HJL : Hid ((bys (h :: l)).length ≤ 32 * 901) := by
          show _ ≤ _
          have := bys_len (h :: l)
          simp only [List.length_cons] at this
          omega
        have HW : Hid (wok h l = true) := by
          show _ = _
          have := HOK.out
          rw [List.take_length] at this
          unfold wok
          rw [H1.out, this]; rfl
        go_wp2_with fail
        rw [← h0]
        refine (join_c [] _ HLs.out (by simp; omega) (by rw [HJ.out]; have := HJL.out; omega)).mono ?_
        rintro E w6 ⟨rfl, hb6⟩
        rw [HJ.out]
        have HB6 := Lib.hid (HB3.out.trans (hb6.mono HB3.out.size))
        clear hb6
        go_wp2
        rw [HQ.out]
        refine ⟨?_, HB6.out⟩
        unfold wA wE
        rw [HW.out]
        rfl
  · have HB : Hid (bA h true = [] ∧ bE h true = 4) := ⟨if_neg h1, if_neg h1⟩
    have HN : Hid (wok h l = false) := by show _ = _; unfold wok; rw [Bool.eq_false_iff.2 h1]; rfl
    clear h1
    go_enter Tryz.func25, Tryz.ntmps25
    go_upto_region 1 with fail
    generalize w.alloc (.cells (rcs h) 43) = wa at *
    have l0 := H0.out.ldA ty_rec 0 rfl 0 (vs := rcs h) (by simp [rcs]) (Nat.le_of_ble_eq_true rfl)
    go_wp2_with fail
    refine (bytes_c h true _ HF.out (tab_b HT.out HT.out.1 H0.out.be)).mono ?_
    rintro E w1 ⟨rfl, hb1⟩
    rw [HB.out.1, HB.out.2]
    have HB1 := Lib.hid (H0.out.be.trans (hb1.mono H0.out.size))
    clear hb1 l0 H0
    go_wp2
    rw [HQ.out]
    refine ⟨?_, HB1.out⟩
    unfold wA wE
    rw [HN.out]
    rfl
end Go.Proofs.YthnelnfefllhpaaGreatDoor
/- Append to a segment, by the program. -/
namespace Go.Proofs.YthnelnfefllhpaaGreatDoor
open Go.RowKit
set_option linter.unusedVariables false
set_option linter.unusedSimpArgs false
set_option maxRecDepth 20000

/-- A segment's file. -/
def sgn (n : Nat) : List UInt8 := 115 :: hex n
theorem sgn_len (n : Nat) : (sgn n).length = 17 := by simp [sgn, hex_len]
/-- Behind Append: the error, the power. -/
def SAE (p : Pw) (q n : Nat) (r : Rc) : Int := if okB r false = true then ((p.wrc 1 q (sgn n) (byR r) : Nat) : Int) else 4
def SAP (p : Pw) (q n : Nat) (r : Rc) : Pw := if okB r false = true then p.wr 1 q (sgn n) (byR r) else p
def SAPost (S : Nat → Prop) (w : World) (g : Nat) (dv : Value) (q : Nat) (ko : Option Addr) (kc : Nat) (p : Pw) (n : Nat) (r : Rc) : Ending → World → Prop := fun R w' =>
  R = .returned (.int .i64 (SAE p q n r)) ∧ PwC S w' g dv q ko kc (SAP p q n r) ∧ Tu (fun x => x = g ∨ S x) w w'
attribute [local go_sem ↓] ld_rec st_rec
set_option maxHeartbeats 2000000 in
theorem sappend_c {S : Nat → Prop} {g q : Nat} {dv : Value} {kc : Nat} {ko : Option Addr} {p : Pw} (n : Nat) (r : Rc) (w : World) (h : PwC S w g dv q ko kc p) (hS : ∀ x, w.heap.size ≤ x → S x) (hn : n < 18446744073709551616) (hf : r.fit) (hp : p.n < 1000000) (ht : Tab w) :
    Calls Tryz.prog 11 #[.pointer (some ⟨g, 0, none⟩), .int .u64 (n : Int), .agg (rcs r)] w (SAPost S w g dv q ko kc p n r) := by
  have HT := Lib.hid ht
  have HF := Lib.hid hf
  have HP := Lib.hid h
  have HS := Lib.hid hS
  have HN := Lib.hid hn
  have HPN := Lib.hid hp
  have H0 := Lib.hid (Loc.one w 43 (rcs r))
  have h0 : str [] = ⟨#[]⟩ := rfl
  obtain ⟨Q, hQ⟩ : ∃ Q : Ending → World → Prop, Q = SAPost S w g dv q ko kc p n r := ⟨_, rfl⟩
  rw [← hQ]
  have HQ := Lib.hid hQ
  clear ht hf h hS hn hp hQ
  by_cases h1 : okB r false = true
  · have HB : Hid (bA r false = byR r ∧ bE r false = 0) := ⟨if_pos h1, if_pos h1⟩
    have HO := Lib.hid h1
    clear h1
    go_enter Tryz.func11, Tryz.ntmps11
    go_upto_region 1 with fail
    generalize w.alloc (.cells (rcs r) 43) = wa at *
    have l0 := H0.out.ldA ty_rec 0 rfl 0 (vs := rcs r) (by simp [rcs]) (Nat.le_of_ble_eq_true rfl)
    go_wp2_with fail
    refine (bytes_c r false _ HF.out (tab_b HT.out HT.out.1 H0.out.be)).mono ?_
    rintro E w1 ⟨rfl, hb1⟩
    rw [HB.out.1, HB.out.2]
    have HB1 := Lib.hid (H0.out.be.trans (hb1.mono H0.out.size))
    clear hb1 l0 H0
    go_wp2_with fail
    refine (seg_c n _ HN.out).mono ?_
    rintro E w2 ⟨rfl, hb2⟩
    have HB2 := Lib.hid (HB1.out.trans (hb2.mono HB1.out.size))
    clear hb2
    go_wp2_with fail
    refine (pappend_c (sgn n) (byR r) w2 (HP.out.new HB2.out) (fun x hx => HS.out x (Nat.le_trans HB2.out.size hx)) (by rw [sgn_len]; decide) (Nat.le_trans (byR_hi r) (by decide)) HPN.out).mono ?_
    rintro E w3 ⟨rfl, hp3, ht3⟩
    have HP3 := Lib.hid hp3
    have HT3 := Lib.hid ht3
    clear hp3 ht3
    go_wp2
    rw [HQ.out]
    refine ⟨?_, ?_, (Tu.new HB2.out).trans HT3.out (fun _ _ h => h)⟩
    · unfold SAE; rw [if_pos HO.out]; rfl
    · unfold SAP; rw [if_pos HO.out]; exact HP3.out
  · have HB : Hid (bA r false = [] ∧ bE r false = 4) := ⟨if_neg h1, if_neg h1⟩
    have HO := Lib.hid h1
    clear h1
    go_enter Tryz.func11, Tryz.ntmps11
    go_upto_region 1 with fail
    generalize w.alloc (.cells (rcs r) 43) = wa at *
    have l0 := H0.out.ldA ty_rec 0 rfl 0 (vs := rcs r) (by simp [rcs]) (Nat.le_of_ble_eq_true rfl)
    go_wp2_with fail
    refine (bytes_c r false _ HF.out (tab_b HT.out HT.out.1 H0.out.be)).mono ?_
    rintro E w1 ⟨rfl, hb1⟩
    rw [HB.out.1, HB.out.2]
    have HB1 := Lib.hid (H0.out.be.trans (hb1.mono H0.out.size))
    clear hb1 l0 H0
    go_wp2
    rw [HQ.out]
    refine ⟨?_, ?_, Tu.new HB1.out⟩
    · unfold SAE; rw [if_neg HO.out]; rfl
    · unfold SAP; rw [if_neg HO.out]; exact HP.out.new HB1.out
end Go.Proofs.YthnelnfefllhpaaGreatDoor
/- Begin's three steps in turn, by the program. -/
namespace Go.Proofs.YthnelnfefllhpaaGreatDoor
open Go.RowKit
set_option linter.unusedVariables false
set_option linter.unusedSimpArgs false
set_option maxRecDepth 20000

/-- The power behind so many steps, and the error of the next. -/
def bP (q : Nat) (m t : List UInt8) (p : Pw) : Nat → Pw
  | 0 => p
  | j + 1 => (bP q m t p j).wr j q m t
def bC (q : Nat) (m t : List UInt8) (p : Pw) (j : Nat) : Nat := (bP q m t p j).wrc j q m t
def bErr (q : Nat) (m t : List UInt8) (p : Pw) : Nat := if bC q m t p 0 ≠ 0 then bC q m t p 0 else if bC q m t p 1 ≠ 0 then bC q m t p 1 else bC q m t p 2
def bPow (q : Nat) (m t : List UInt8) (p : Pw) : Pw := if bC q m t p 0 ≠ 0 then bP q m t p 1 else if bC q m t p 1 ≠ 0 then bP q m t p 2 else bP q m t p 3
theorem after_n (p : Pw) (E : List Ent) : (p.after E).n ≤ p.n + 1 := by
  unfold Pw.after
  split
  · omega
  · split <;> simp
theorem bP_n (q : Nat) (m t : List UInt8) (p : Pw) : ∀ j, (bP q m t p j).n ≤ p.n + j
  | 0 => Nat.le_refl _
  | j + 1 => by
    have h1 := after_n (bP q m t p j) (wrE j q (bP q m t p j).E m t)
    have h2 := bP_n q m t p j
    show ((bP q m t p j).after _).n ≤ _
    omega
/-- What Begin hands to its steps. -/
structure Bx (S : Nat → Prop) (w : World) (g bp bf ba gs : Nat) (m t : List UInt8) : Prop where
  p : Cells w bp 35 #[.pointer (some ⟨g, 0, none⟩)]
  f : Cells w bf 9 #[.string (str m)]
  a : Cells w ba 9 #[.string (str t)]
  s : Cells w gs 84 #[.func (.func 27) #[] #[.pointer (some ⟨bp, 0, none⟩), .pointer (some ⟨bf, 0, none⟩)], .func (.func 29) #[] #[.pointer (some ⟨bp, 0, none⟩), .pointer (some ⟨bf, 0, none⟩), .pointer (some ⟨ba, 0, none⟩)], .func (.func 31) #[] #[.pointer (some ⟨bp, 0, none⟩), .pointer (some ⟨bf, 0, none⟩)]]
  n : ∀ x, x = bp ∨ x = bf ∨ x = ba ∨ x = gs → ¬ (x = g ∨ S x)
theorem Bx.tu {S : Nat → Prop} {w w' : World} {g bp bf ba gs : Nat} {m t : List UInt8} (h : Bx S w g bp bf ba gs m t) (k : Tu (fun x => x = g ∨ S x) w w') : Bx S w' g bp bf ba gs m t :=
  ⟨h.p.tu k (h.n _ (.inl rfl)), h.f.tu k (h.n _ (.inr (.inl rfl))), h.a.tu k (h.n _ (.inr (.inr (.inl rfl)))), h.s.tu k (h.n _ (.inr (.inr (.inr rfl)))), h.n⟩
section
variable {S : Nat → Prop} {g q bp bf ba gs : Nat} {dv : Value} {kc : Nat} {ko : Option Addr} {p : Pw}
theorem begin1_c (m t : List UInt8) (w : World) (hx : Bx S w g bp bf ba gs m t) (h : PwC S w g dv q ko kc p) (hS : ∀ x, w.heap.size ≤ x → S x) (hm : m.length ≤ maxLen) (hl : t.length ≤ maxLen) (hp : p.n < 1000000) :
    Calls Tryz.prog 27 #[.pointer (some ⟨bp, 0, none⟩), .pointer (some ⟨bf, 0, none⟩)] w (WPost S w g dv q ko kc p 0 m t) := by
  have HC := Lib.hid (pcreate_c m t w h hS hm hl hp)
  have c1 := hx.p.cell 0
  have c2 := hx.f.cell 0
  clear hx h hS
  go_enter Tryz.func27, Tryz.ntmps27
  go_wp2_with fail
  refine HC.out.mono ?_
  rintro R w1 ⟨rfl, hp1, ht1⟩
  have P1 := Lib.hid hp1
  have T1 := Lib.hid ht1
  clear hp1 ht1
  go_wp2
  go_ret
  exact ⟨rfl, P1.out, T1.out⟩
theorem begin2_c (m t : List UInt8) (w : World) (hx : Bx S w g bp bf ba gs m t) (h : PwC S w g dv q ko kc p) (hS : ∀ x, w.heap.size ≤ x → S x) (hm : m.length ≤ maxLen) (hl : t.length ≤ maxLen) (hp : p.n < 1000000) :
    Calls Tryz.prog 29 #[.pointer (some ⟨bp, 0, none⟩), .pointer (some ⟨bf, 0, none⟩), .pointer (some ⟨ba, 0, none⟩)] w (WPost S w g dv q ko kc p 1 m t) := by
  have HC := Lib.hid (pappend_c m t w h hS hm hl hp)
  have c1 := hx.p.cell 0
  have c2 := hx.f.cell 0
  have c3 := hx.a.cell 0
  clear hx h hS
  go_enter Tryz.func29, Tryz.ntmps29
  go_wp2_with fail
  refine HC.out.mono ?_
  rintro R w1 ⟨rfl, hp1, ht1⟩
  have P1 := Lib.hid hp1
  have T1 := Lib.hid ht1
  clear hp1 ht1
  go_wp2
  go_ret
  exact ⟨rfl, P1.out, T1.out⟩
theorem begin3_c (m t : List UInt8) (w : World) (hx : Bx S w g bp bf ba gs m t) (h : PwC S w g dv q ko kc p) (hS : ∀ x, w.heap.size ≤ x → S x) (hm : m.length ≤ maxLen) (hl : t.length ≤ maxLen) (hp : p.n < 1000000) :
    Calls Tryz.prog 31 #[.pointer (some ⟨bp, 0, none⟩), .pointer (some ⟨bf, 0, none⟩)] w (WPost S w g dv q ko kc p 2 m t) := by
  have HC := Lib.hid (psync_c m t w h hS hm hl hp)
  have c1 := hx.p.cell 0
  have c2 := hx.f.cell 0
  clear hx h hS
  go_enter Tryz.func31, Tryz.ntmps31
  go_wp2_with fail
  refine HC.out.mono ?_
  rintro R w1 ⟨rfl, hp1, ht1⟩
  have P1 := Lib.hid hp1
  have T1 := Lib.hid ht1
  clear hp1 ht1
  go_wp2
  go_ret
  exact ⟨rfl, P1.out, T1.out⟩
end
end Go.Proofs.YthnelnfefllhpaaGreatDoor
/- The steps in turn, by the program. -/
namespace Go.Proofs.YthnelnfefllhpaaGreatDoor
open Go.RowKit
set_option linter.unusedVariables false
set_option linter.unusedSimpArgs false
set_option maxRecDepth 20000

def BPost (S : Nat → Prop) (w : World) (g : Nat) (dv : Value) (q : Nat) (ko : Option Addr) (kc : Nat) (p : Pw) (m t : List UInt8) : Ending → World → Prop := fun R w' =>
  R = .returned (.int .i64 (bErr q m t p : Nat)) ∧ PwC S w' g dv q ko kc (bPow q m t p) ∧ Tu (fun x => x = g ∨ S x) w w'
set_option maxHeartbeats 4000000 in
theorem inturn_c {S : Nat → Prop} {g q bp bf ba gs : Nat} {dv : Value} {kc : Nat} {ko : Option Addr} {p : Pw} (m t : List UInt8) (w : World) (hx : Bx S w g bp bf ba gs m t) (h : PwC S w g dv q ko kc p) (hS : ∀ x, w.heap.size ≤ x → S x) (hm : m.length ≤ maxLen) (hl : t.length ≤ maxLen) (hp : p.n + 3 < 1000000) :
    Calls Tryz.prog 26 #[.slice (some ⟨gs, 0, none⟩) 3 3] w (BPost S w g dv q ko kc p m t) := by
  have HX0 := Lib.hid hx
  have HP0 := Lib.hid h
  have HS := Lib.hid hS
  have HM := Lib.hid hm
  have HL := Lib.hid hl
  have HN := Lib.hid hp
  obtain ⟨Q, hQ⟩ : ∃ Q, Q = BPost S w g dv q ko kc p m t := ⟨_, rfl⟩
  rw [← hQ]
  have HQ := Lib.hid hQ
  clear hx h hS hm hl hp hQ
  go_enter Tryz.func26, Tryz.ntmps26
  go_wp2
  go_loopw [8] (fun iv wr => ∃ j : Nat, j ≤ 3 ∧ iv = .int .i64 (j : Int) ∧ Hid (∀ i, i < j → bC q m t p i = 0) ∧ Hid (PwC S wr g dv q ko kc (bP q m t p j)) ∧ Hid (Tu (fun x => x = g ∨ S x) w wr) ∧ Hid (Bx S wr g bp bf ba gs m t)) (fun iv _ => 3 - (intOf iv).toNat)
  case atStart => exact ⟨0, by omega, rfl, fun i hi => by omega, HP0.out, Tu.refl _ _, HX0.out⟩
  case round =>
    obtain ⟨j, hj, rfl, HZ0, HP, HT, HX⟩ := hrel
    clear HX0 HP0
    have hj4 : j = 0 ∨ j = 1 ∨ j = 2 ∨ j = 3 := by omega
    rcases hj4 with rfl | rfl | rfl | rfl
    · have c1 := HX.out.s.cell 0
      have hin := @enters Tryz.prog 27 _ _ Tryz.func27 (by kernel_rfl) rfl
      simp only [List.getElem?_toArray, List.getElem?_cons_zero, List.getElem?_cons_succ] at c1
      go_wp2_with fail
      refine (begin1_c m t wr HX.out HP.out (fun x hx => HS.out x (Nat.le_trans HT.out.size hx)) HM.out HL.out (by have h1 := bP_n q m t p 0; have h2 := HN.out; omega)).mono ?_
      rintro R w1 ⟨rfl, hp1, ht1⟩
      obtain ⟨cj, hcj⟩ : ∃ cj : Nat, cj = bC q m t p 0 := ⟨_, rfl⟩
      have hcd : (bP q m t p 0).code (wrR 0 q (bP q m t p 0).E m t) = cj := hcj.symm
      rw [hcd]
      have HCJ := Lib.hid hcj
      have P1 : Hid (PwC S w1 g dv q ko kc (bP q m t p (0 + 1))) := hp1
      have T1 := Lib.hid (HT.out.trans ht1 (fun _ _ h => h))
      have X1 := Lib.hid (HX.out.tu ht1)
      clear hp1 ht1 hcj hcd c1 hin
      by_cases hz : cj = 0
      · have hne : ((cj : Int) != 0) = false := by rw [hz]; rfl
        have HZ := Lib.hid hz
        clear hz
        go_wp2
        go_roundw
        case rel => exact ⟨0 + 1, by omega, by go_num, fun i hi => (by rcases Nat.lt_or_ge i 0 with h | h; exact HZ0.out i h; obtain rfl : i = 0 := (by omega); rw [← HCJ.out]; exact HZ.out), P1, T1, X1⟩
        case measure => simp [intOf]
      · have hne : ((cj : Int) != 0) = true := by rw [bne_iff_ne]; omega
        go_wp2
        rw [HQ.out]
        have e1 : bErr q m t p = cj := by unfold bErr; rw [← HCJ.out, if_pos hz]
        have e2 : bPow q m t p = bP q m t p 1 := by unfold bPow; rw [← HCJ.out, if_pos hz]
        unfold BPost
        rw [e1, e2]
        exact ⟨rfl, P1.out, T1.out⟩
    · have c1 := HX.out.s.cell 1
      have hin := @enters Tryz.prog 29 _ _ Tryz.func29 (by kernel_rfl) rfl
      simp only [List.getElem?_toArray, List.getElem?_cons_zero, List.getElem?_cons_succ] at c1
      go_wp2_with fail
      refine (begin2_c m t wr HX.out HP.out (fun x hx => HS.out x (Nat.le_trans HT.out.size hx)) HM.out HL.out (by have h1 := bP_n q m t p 1; have h2 := HN.out; omega)).mono ?_
      rintro R w1 ⟨rfl, hp1, ht1⟩
      obtain ⟨cj, hcj⟩ : ∃ cj : Nat, cj = bC q m t p 1 := ⟨_, rfl⟩
      have hcd : (bP q m t p 1).code (wrR 1 q (bP q m t p 1).E m t) = cj := hcj.symm
      rw [hcd]
      have HCJ := Lib.hid hcj
      have P1 : Hid (PwC S w1 g dv q ko kc (bP q m t p (1 + 1))) := hp1
      have T1 := Lib.hid (HT.out.trans ht1 (fun _ _ h => h))
      have X1 := Lib.hid (HX.out.tu ht1)
      clear hp1 ht1 hcj hcd c1 hin
      by_cases hz : cj = 0
      · have hne : ((cj : Int) != 0) = false := by rw [hz]; rfl
        have HZ := Lib.hid hz
        clear hz
        go_wp2
        go_roundw
        case rel => exact ⟨1 + 1, by omega, by go_num, fun i hi => (by rcases Nat.lt_or_ge i 1 with h | h; exact HZ0.out i h; obtain rfl : i = 1 := (by omega); rw [← HCJ.out]; exact HZ.out), P1, T1, X1⟩
        case measure => simp [intOf]
      · have hne : ((cj : Int) != 0) = true := by rw [bne_iff_ne]; omega
        go_wp2
        rw [HQ.out]
        have z0 := HZ0.out 0 (by omega)
        have e1 : bErr q m t p = cj := by unfold bErr; rw [if_neg (fun h => h z0), ← HCJ.out, if_pos hz]
        have e2 : bPow q m t p = bP q m t p 2 := by unfold bPow; rw [if_neg (fun h => h z0), ← HCJ.out, if_pos hz]
        unfold BPost
        rw [e1, e2]
        exact ⟨rfl, P1.out, T1.out⟩
    · have c1 := HX.out.s.cell 2
      have hin := @enters Tryz.prog 31 _ _ Tryz.func31 (by kernel_rfl) rfl
      simp only [List.getElem?_toArray, List.getElem?_cons_zero, List.getElem?_cons_succ] at c1
      go_wp2_with fail
      refine (begin3_c m t wr HX.out HP.out (fun x hx => HS.out x (Nat.le_trans HT.out.size hx)) HM.out HL.out (by have h1 := bP_n q m t p 2; have h2 := HN.out; omega)).mono ?_
      rintro R w1 ⟨rfl, hp1, ht1⟩
      obtain ⟨cj, hcj⟩ : ∃ cj : Nat, cj = bC q m t p 2 := ⟨_, rfl⟩
      have hcd : (bP q m t p 2).code (wrR 2 q (bP q m t p 2).E m t) = cj := hcj.symm
      rw [hcd]
      have HCJ := Lib.hid hcj
      have P1 : Hid (PwC S w1 g dv q ko kc (bP q m t p (2 + 1))) := hp1
      have T1 := Lib.hid (HT.out.trans ht1 (fun _ _ h => h))
      have X1 := Lib.hid (HX.out.tu ht1)
      clear hp1 ht1 hcj hcd c1 hin
      by_cases hz : cj = 0
      · have hne : ((cj : Int) != 0) = false := by rw [hz]; rfl
        have HZ := Lib.hid hz
        clear hz
        go_wp2
        go_roundw
        case rel => exact ⟨2 + 1, by omega, by go_num, fun i hi => (by rcases Nat.lt_or_ge i 2 with h | h; exact HZ0.out i h; obtain rfl : i = 2 := (by omega); rw [← HCJ.out]; exact HZ.out), P1, T1, X1⟩
        case measure => simp [intOf]
      · have hne : ((cj : Int) != 0) = true := by rw [bne_iff_ne]; omega
        go_wp2
        rw [HQ.out]
        have z0 := HZ0.out 0 (by omega)
        have z1 := HZ0.out 1 (by omega)
        have e1 : bErr q m t p = cj := by unfold bErr; rw [if_neg (fun h => h z0), if_neg (fun h => h z1), ← HCJ.out]
        have e2 : bPow q m t p = bP q m t p 3 := by unfold bPow; rw [if_neg (fun h => h z0), if_neg (fun h => h z1)]
        unfold BPost
        rw [e1, e2]
        exact ⟨rfl, P1.out, T1.out⟩
    · go_wp2
      rw [HQ.out]
      have z0 := HZ0.out 0 (by omega)
      have z1 := HZ0.out 1 (by omega)
      have z2 := HZ0.out 2 (by omega)
      have e1 : bErr q m t p = 0 := by unfold bErr; rw [if_neg (fun h => h z0), if_neg (fun h => h z1), z2]
      have e2 : bPow q m t p = bP q m t p 3 := by unfold bPow; rw [if_neg (fun h => h z0), if_neg (fun h => h z1)]
      unfold BPost
      rw [e1, e2]
      exact ⟨rfl, HP.out, HT.out⟩
end Go.Proofs.YthnelnfefllhpaaGreatDoor
/- Begin, by the program. -/
namespace Go.Proofs.YthnelnfefllhpaaGreatDoor
open Go.RowKit
set_option linter.unusedVariables false
set_option linter.unusedSimpArgs false
set_option maxRecDepth 20000

theorem after_ks (p : Pw) (E : List Ent) : (p.after E).ks = p.ks := by
  unfold Pw.after
  split
  · rfl
  · split <;> rfl
theorem bP_ks (q : Nat) (m t : List UInt8) (p : Pw) : ∀ j, (bP q m t p j).ks = p.ks
  | 0 => rfl
  | j + 1 => (after_ks _ _).trans (bP_ks q m t p j)
theorem bPow_ks (q : Nat) (m t : List UInt8) (p : Pw) : (bPow q m t p).ks = p.ks := by
  unfold bPow
  split
  · exact bP_ks _ _ _ _ _
  · split <;> exact bP_ks _ _ _ _ _
theorem PwC.back {S S' : Nat → Prop} {w w' : World} {g q kc : Nat} {dv : Value} {ko : Option Addr} {p p' : Pw} (h' : PwC S' w' g dv q ko kc p') (h : PwC S w g dv q ko kc p) (hk : p'.ks = p.ks) (hs : ∀ x, S' x → S x) : PwC S w' g dv q ko kc p' :=
  ⟨h'.blk, h'.ks, h'.kl, fun a e hn => ⟨(h.kf a e (by rw [← hk]; exact hn)).1, (h'.kf a e hn).2⟩, h.ng, h'.dk.mono fun x _ hx => hs x hx⟩
/-- Behind Begin: the error, the power. -/
def SBE (p : Pw) (q : Nat) (h : Rc) (l : List Rc) : Int := if wok h l = true then ((bErr q (sgn h.s) (bys (h :: l)) p : Nat) : Int) else 4
def SBP (p : Pw) (q : Nat) (h : Rc) (l : List Rc) : Pw := if wok h l = true then bPow q (sgn h.s) (bys (h :: l)) p else p
def SBPost (S : Nat → Prop) (w : World) (g : Nat) (dv : Value) (q : Nat) (ko : Option Addr) (kc : Nat) (p : Pw) (h : Rc) (l : List Rc) : Ending → World → Prop := fun R w' =>
  R = .returned (.int .i64 (SBE p q h l)) ∧ PwC S w' g dv q ko kc (SBP p q h l) ∧ Tu (fun x => x = g ∨ S x) w w'
theorem ty_st16 : TyO 9 := tyo_of Tryz.underlying9 rfl (by kernel_rfl)
theorem st_st16 (p v : Value) : Instr.storeAt 9 p v = stT 9 p v := rfl
attribute [local go_sem ↓] ld_rec st_rec ld_u64 st_st16
set_option maxHeartbeats 4000000 in
theorem sbegin_c {S : Nat → Prop} {g q : Nat} {dv : Value} {kc : Nat} {ko : Option Addr} {p : Pw} (h : Rc) (l : List Rc) (ao : Option Addr) (cap : Nat) (w : World) (hp : PwC S w g dv q ko kc p) (hS : ∀ x, w.heap.size ≤ x → S x) (hf : h.fit) (hl : ∀ r ∈ l, r.fit) (hn : l.length ≤ 900) (ha : RcsAt w ao l) (hpn : p.n + 3 < 1000000) (ht : Tab w) :
    Calls Tryz.prog 9 #[.pointer (some ⟨g, 0, none⟩), .agg (rcs h), .slice ao l.length cap] w (SBPost S w g dv q ko kc p h l) := by
  have hmf : ∀ (fn : Fn) (first cap : Array Value) (w : World), (Instr.makeFunc fn first cap).run Tryz.prog w = .ok (.func fn first cap) w := fun _ _ _ _ => rfl
  have HT := Lib.hid ht
  have HF := Lib.hid hf
  have HLF := Lib.hid hl
  have HLN := Lib.hid hn
  have HA := Lib.hid ha
  have HP := Lib.hid hp
  have HS := Lib.hid hS
  have HPN := Lib.hid hpn
  have H0 := Lib.hid (Loc.two w 35 43 #[.pointer (some ⟨g, 0, none⟩)] (rcs h))
  have h0 : str [] = ⟨#[]⟩ := rfl
  obtain ⟨Q, hQ⟩ : ∃ Q : Ending → World → Prop, Q = SBPost S w g dv q ko kc p h l := ⟨_, rfl⟩
  rw [← hQ]
  have HQ := Lib.hid hQ
  clear ht hf hl hn ha hp hS hpn hQ
  by_cases h1 : wok h l = true
  · have HB : Hid (wA h l = bys (h :: l) ∧ wE h l = 0) := ⟨if_pos h1, if_pos h1⟩
    have HO := Lib.hid h1
    clear h1
    go_enter Tryz.func9, Tryz.ntmps9
    go_upto_region 1 with fail
    generalize (w.alloc (.cells #[.pointer (some ⟨g, 0, none⟩)] 35)).alloc (.cells (rcs h) 43) = wa at *
    have l0 := H0.out.ldA ty_rec 1 rfl 0 (vs := rcs h) (by simp [rcs]) (Nat.le_of_ble_eq_true rfl)
    go_wp2_with fail
    refine (whole_c h l ao cap _ HF.out HLF.out HLN.out (HA.out.new H0.out.be) (tab_b HT.out HT.out.1 H0.out.be)).mono ?_
    rintro E w1 ⟨rfl, hb1⟩
    rw [HB.out.1, HB.out.2]
    have h1 := H0.out.to hb1
    obtain ⟨g5, w5, z5, s5, h5, q5⟩ := h1.newO ty_st16 (.string ⟨#[]⟩) (.string (str (bys (h :: l)))) rfl rfl
    have H5 : Hid (Loc w.heap.size w w5 [(w.heap.size, 35, #[.pointer (some ⟨g, 0, none⟩)]), (w.heap.size + 1, 43, rcs h), (g5, 9, #[.string (str (bys (h :: l)))])]) := h5
    clear hb1 l0 H0 h1 h5 q5
    have l5 := H5.out.ldO ty_u64 1 rfl 5 (v := .int .u64 (h.s : Int)) rfl
    go_wp2_with fail
    clear s5 z5 l5
    refine (seg_c h.s _ HF.out.s).mono ?_
    rintro E w6 ⟨rfl, hb6⟩
    have h6 := H5.out.to hb6
    obtain ⟨g7, w7, z7, s7, h7, q7⟩ := h6.newO ty_st16 (.string ⟨#[]⟩) (.string (str (115 :: hex h.s))) rfl rfl
    have H7 : Hid (Loc w.heap.size w w7 [(w.heap.size, 35, #[.pointer (some ⟨g, 0, none⟩)]), (w.heap.size + 1, 43, rcs h), (g5, 9, #[.string (str (bys (h :: l)))]), (g7, 9, #[.string (str (sgn h.s))])]) := h7
    clear hb6 h6 h7 q7 H5
    have HW8 := Lib.hid (below_alloc w7 (.cells #[.func (.func 27) #[] #[.pointer (some ⟨w.heap.size, 0, none⟩), .pointer (some ⟨g7, 0, none⟩)], .func (.func 29) #[] #[.pointer (some ⟨w.heap.size, 0, none⟩), .pointer (some ⟨g7, 0, none⟩), .pointer (some ⟨g5, 0, none⟩)], .func (.func 31) #[] #[.pointer (some ⟨w.heap.size, 0, none⟩), .pointer (some ⟨g7, 0, none⟩)]] 84))
    have HC8 := Lib.hid (Cells.made w7 84 #[.func (.func 27) #[] #[.pointer (some ⟨w.heap.size, 0, none⟩), .pointer (some ⟨g7, 0, none⟩)], .func (.func 29) #[] #[.pointer (some ⟨w.heap.size, 0, none⟩), .pointer (some ⟨g7, 0, none⟩), .pointer (some ⟨g5, 0, none⟩)], .func (.func 31) #[] #[.pointer (some ⟨w.heap.size, 0, none⟩), .pointer (some ⟨g7, 0, none⟩)]])
    go_wp2_with fail
    clear s7 z7
    generalize w7.alloc (.cells #[.func (.func 27) #[] #[.pointer (some ⟨w.heap.size, 0, none⟩), .pointer (some ⟨g7, 0, none⟩)], .func (.func 29) #[] #[.pointer (some ⟨w.heap.size, 0, none⟩), .pointer (some ⟨g7, 0, none⟩), .pointer (some ⟨g5, 0, none⟩)], .func (.func 31) #[] #[.pointer (some ⟨w.heap.size, 0, none⟩), .pointer (some ⟨g7, 0, none⟩)]] 84) = w8 at *
    have hlt := HP.out.lt
    have h8 := H7.out.to HW8.out
    have hsz := h8.be.size
    have hx : Bx (fun x => S x ∧ (x < w.heap.size ∨ w8.heap.size ≤ x)) w8 g w.heap.size g7 g5 w7.heap.size (sgn h.s) (bys (h :: l)) := by
      refine ⟨h8.get 0 rfl, h8.get 3 rfl, h8.get 2 rfl, HC8.out, fun x hx => ?_⟩
      have e0 := (h8.get 0 rfl).lt
      have e3 := (h8.get 3 rfl).lt
      have e2 := (h8.get 2 rfl).lt
      have e8 := HC8.out.lt
      have g3 := h8.ge _ (List.mem_of_getElem? (show _[3]? = some (g7, _, _) from rfl))
      have g2 := h8.ge _ (List.mem_of_getElem? (show _[2]? = some (g5, _, _) from rfl))
      have g8 := H7.out.be.size
      rintro (e | ⟨_, e⟩)
      · rcases hx with rfl | rfl | rfl | rfl <;> omega
      · rcases hx with rfl | rfl | rfl | rfl <;> omega
    refine (inturn_c (sgn h.s) (bys (h :: l)) w8 hx ((HP.out.mono (S' := fun x => S x ∧ (x < w.heap.size ∨ w8.heap.size ≤ x)) fun x hx => ⟨fun h => ⟨h, .inl hx⟩, fun h => h.1⟩).new h8.be) (fun x hx => ⟨HS.out x (Nat.le_trans hsz hx), .inr hx⟩) (by rw [sgn_len]; decide) (by have := bys_len (h :: l); have := HLN.out; simp only [List.length_cons] at *; simp only [maxLen]; omega) HPN.out).mono ?_
    rintro E w9 ⟨rfl, hp9, ht9⟩
    have HP9 := Lib.hid (hp9.back HP.out (bPow_ks _ _ _ _) fun x hx => hx.1)
    have HT9 := Lib.hid ((Tu.new (S := fun x => x = g ∨ S x) h8.be).trans ht9 (fun x _ hx => hx.imp id And.left))
    clear hp9 ht9 hx h8 hsz hlt hmf
    go_wp2
    rw [HQ.out]
    refine ⟨?_, ?_, HT9.out⟩
    · unfold SBE; rw [if_pos HO.out]; rfl
    · unfold SBP; rw [if_pos HO.out]; exact HP9.out
  · have HB : Hid (wA h l = [] ∧ wE h l = 4) := ⟨if_neg h1, if_neg h1⟩
    have HO := Lib.hid h1
    clear h1
    go_enter Tryz.func9, Tryz.ntmps9
    go_upto_region 1 with fail
    generalize (w.alloc (.cells #[.pointer (some ⟨g, 0, none⟩)] 35)).alloc (.cells (rcs h) 43) = wa at *
    have l0 := H0.out.ldA ty_rec 1 rfl 0 (vs := rcs h) (by simp [rcs]) (Nat.le_of_ble_eq_true rfl)
    go_wp2_with fail
    refine (whole_c h l ao cap _ HF.out HLF.out HLN.out (HA.out.new H0.out.be) (tab_b HT.out HT.out.1 H0.out.be)).mono ?_
    rintro E w1 ⟨rfl, hb1⟩
    rw [HB.out.1, HB.out.2]
    have h1 := H0.out.to hb1
    obtain ⟨g5, w5, z5, s5, h5, q5⟩ := h1.newO ty_st16 (.string ⟨#[]⟩) (.string ⟨#[]⟩) rfl rfl
    have H5 := Lib.hid h5.be
    clear hb1 l0 H0 h1 h5 q5
    go_wp2
    rw [HQ.out]
    refine ⟨?_, ?_, Tu.new H5.out⟩
    · unfold SBE; rw [if_neg HO.out]; rfl
    · unfold SBP; rw [if_neg HO.out]; exact HP.out.new H5.out
end Go.Proofs.YthnelnfefllhpaaGreatDoor
/- Where the power may go off while records are appended: plain. One file, a beginning of the records' bytes. -/
namespace Go.Proofs.YthnelnfefllhpaaGreatDoor
open Go.RowKit
set_option linter.unusedVariables false
set_option linter.unusedSimpArgs false

theorem sgn_nm : isNm (sgn 1) = true := by decide
section
variable {N : List UInt8} {b t : List UInt8} {s q : Nat}
theorem fnd_one : fnd N [⟨N, b, s⟩] = some ⟨N, b, s⟩ := by simp [fndK]
theorem one_create (hN : isNm N = true) : eCreate [] N = 0 ∧ aCreate [] N = [⟨N, [], 0⟩] := by
  have h : eCreate [] N = 0 := by simp [eCreate, hN, fndK]
  exact ⟨h, by unfold aCreate; rw [if_pos h]; rfl⟩
theorem one_append (hN : isNm N = true) (h1 : b.length + t.length ≤ 65536) (h2 : b.length + t.length ≤ q) : eAppend q [⟨N, b, s⟩] N t = 0 ∧ aAppend q [⟨N, b, s⟩] N t = [⟨N, b ++ t, s⟩] := by
  have hf := fnd_one (N := N) (b := b) (s := s)
  have h : eAppend q [⟨N, b, s⟩] N t = 0 := by
    unfold eAppend
    rw [hN, hf]
    exact if_neg (show ¬ (65536 < b.length + t.length ∨ q < (b.length + 0) + t.length) by omega)
  refine ⟨h, ?_⟩
  unfold aAppend
  rw [if_pos h, hf]
  simp [setE]
theorem one_sync (hN : isNm N = true) : eFind [⟨N, b, s⟩] N = 0 ∧ aSync [⟨N, b, s⟩] N = [⟨N, b, b.length⟩] := by
  have hf := fnd_one (N := N) (b := b) (s := s)
  unfold eFind aSync
  rw [hN, hf]
  simp [setE]
theorem one_rd (hN : isNm N = true) : rd [⟨N, b, s⟩] N = b := by unfold rd; rw [hN, fnd_one]; rfl
theorem none_rd : rd [] N = [] := by unfold rd; split <;> rfl
theorem one_crash (ks : List Int) (hs : s ≤ b.length) : ∃ m, aCrash ks [⟨N, b, s⟩] = [⟨N, b.take m, m⟩] ∧ s ≤ m ∧ m ≤ b.length := by
  refine ⟨s + kept (numAt ks 0) (b.length - s + 1), rfl, by omega, ?_⟩
  have h1 : (numAt ks 0) % ((b.length - s + 1 : Nat) : Int) < ((b.length - s + 1 : Nat) : Int) := Int.emod_lt_of_pos _ (by omega)
  have h2 : 0 ≤ (numAt ks 0) % ((b.length - s + 1 : Nat) : Int) := Int.emod_nonneg _ (by omega)
  unfold kept
  omega
end
theorem bys_at (l : List Rc) (d : Nat) : bys l = bys (l.take d) ++ bys (l.drop d) := by rw [← bys_app, List.take_append_drop]
theorem bys_cutAt (l : List Rc) (d : Nat) {m : Nat} (h : m ≤ (bys (l.take d)).length) : (bys (l.take d)).take m = (bys l).take m := by
  conv => rhs; rw [bys_at l d]
  rw [List.take_append_of_le_length h]
/-- Behind a cut of the power, at a write that would have left E'. -/
theorem after_cases (p : Pw) (ho : p.off = false) (E' : List Ent) (r : Nat) :
    (p.code r = 8 ∧ p.after E' = { p with n := p.n + 1, off := true, E := aCrash p.ks (if oddK p.ks then E' else p.E) }) ∨ (p.code r = r ∧ p.after E' = { p with n := p.n + 1, E := E' }) := by
  unfold Pw.code Pw.after
  rw [ho]
  by_cases h : (p.n : Int) = p.fu
  · exact .inl ⟨by rw [if_pos h]; rfl, by rw [if_pos h]; rfl⟩
  · exact .inr ⟨by rw [if_neg h]; rfl, by rw [if_neg h]; rfl⟩
theorem after_off (p : Pw) (ho : p.off = true) (E' : List Ent) (r : Nat) : p.code r = 8 ∧ p.after E' = p := by
  unfold Pw.code Pw.after
  rw [ho]
  exact ⟨rfl, rfl⟩
/-- The power is on; it is off. -/
def TOn (l : List Rc) (p : Pw) (sure done : Nat) : Prop := p.off = false ∧ ∃ su, p.E = [⟨sgn 1, bys (l.take done), su⟩] ∧ (bys (l.take sure)).length ≤ su ∧ su ≤ (bys (l.take done)).length
def TOff (l : List Rc) (p : Pw) (sure done : Nat) : Prop := p.off = true ∧ ∃ k, (p.E = [] ∧ k = 0 ∨ p.E = [⟨sgn 1, (bys l).take k, k⟩]) ∧ (bys (l.take sure)).length ≤ k ∧ k ≤ (bys (l.take (done + 1))).length
theorem toff_of {l : List Rc} {p : Pw} {ks : List Int} {sure done d d' su su' : Nat} {E' E : List Ent} {b : Bool} {n : Nat} {fu : Int} (hE : E = [⟨sgn 1, bys (l.take d), su⟩]) (hE' : E' = [⟨sgn 1, bys (l.take d'), su'⟩]) (h1 : (bys (l.take sure)).length ≤ su) (h2 : (bys (l.take sure)).length ≤ su') (h3 : su ≤ (bys (l.take d)).length) (h4 : su' ≤ (bys (l.take d')).length) (h5 : d ≤ done + 1) (h6 : d' ≤ done + 1) :
    TOff l ⟨fu, ks, n, true, aCrash ks (if b then E' else E)⟩ sure done := by
  refine ⟨rfl, ?_⟩
  cases b
  · obtain ⟨m, e, m1, m2⟩ := one_crash (N := sgn 1) ks h3
    refine ⟨m, .inr ?_, by omega, Nat.le_trans m2 (bys_take_le h5)⟩
    show aCrash ks (if false = true then E' else E) = _
    rw [if_neg (by decide), hE, e, bys_cutAt l d m2]
  · obtain ⟨m, e, m1, m2⟩ := one_crash (N := sgn 1) ks h4
    refine ⟨m, .inr ?_, by omega, Nat.le_trans m2 (bys_take_le h6)⟩
    show aCrash ks (if true = true then E' else E) = _
    rw [if_pos rfl, hE', e, bys_cutAt l d' m2]
theorem toff_more {l : List Rc} {p : Pw} {sure done done' : Nat} (h : TOff l p sure done) (hd : done ≤ done') : TOff l p sure done' := by
  obtain ⟨h1, k, h2, h3, h4⟩ := h
  exact ⟨h1, k, h2, h3, Nat.le_trans h4 (bys_take_le (by omega))⟩
theorem t_app {l : List Rc} {p : Pw} {sure done q : Nat} (hd : done < l.length) (hq : 65536 ≤ q) (hl : (bys l).length ≤ 65536) (hs : sure ≤ done) (h : TOn l p sure done ∨ TOff l p sure done) :
    (p.wrc 1 q (sgn 1) (byR (l[done]'hd)) = 0 ∧ TOn l (p.wr 1 q (sgn 1) (byR (l[done]'hd))) sure (done + 1)) ∨ (p.wrc 1 q (sgn 1) (byR (l[done]'hd)) ≠ 0 ∧ TOff l (p.wr 1 q (sgn 1) (byR (l[done]'hd))) sure done) := by
  have hb := bys_take hd
  have hle := bys_take_all l (done + 1)
  rw [hb, List.length_append] at hle
  rcases h with ⟨ho, su, hE, h1, h2⟩ | h
  · obtain ⟨e1, e2⟩ := one_append (s := su) sgn_nm (b := bys (l.take done)) (t := byR (l[done]'hd)) (q := q) (by omega) (by omega)
    rcases after_cases p ho (wrE 1 q p.E (sgn 1) (byR (l[done]'hd))) (wrR 1 q p.E (sgn 1) (byR (l[done]'hd))) with ⟨c, a⟩ | ⟨c, a⟩
    · refine .inr ⟨?_, ?_⟩
      · show p.code _ ≠ 0
        rw [c]; decide
      · show TOff l (p.after _) sure done
        rw [a]
        exact toff_of (p := p) hE (by show aAppend q p.E _ _ = _; rw [hE, e2, ← hb]) h1 h1 h2 (by rw [hb, List.length_append]; omega) (by omega) (Nat.le_refl _)
    · refine .inl ⟨?_, ?_⟩
      · show p.code _ = 0
        rw [c]
        show eAppend q p.E _ _ = 0
        rw [hE, e1]
      · show TOn l (p.after _) sure (done + 1)
        rw [a]
        refine ⟨ho, su, ?_, h1, ?_⟩
        · show aAppend q p.E _ _ = _
          rw [hE, e2, ← hb]
        · rw [hb, List.length_append]; omega
  · obtain ⟨c, a⟩ := after_off p h.1 (wrE 1 q p.E (sgn 1) (byR (l[done]'hd))) (wrR 1 q p.E (sgn 1) (byR (l[done]'hd)))
    refine .inr ⟨?_, ?_⟩
    · show p.code _ ≠ 0
      rw [c]; decide
    · show TOff l (p.after _) sure done
      rw [a]; exact h
theorem t_append {l : List Rc} {p : Pw} {sure done q : Nat} (hd : done < l.length) (hq : 65536 ≤ q) (hl : (bys l).length ≤ 65536) (hr : okB (l[done]'hd) false = true) (hs : sure ≤ done) (h : TOn l p sure done ∨ TOff l p sure done) :
    (SAE p q 1 (l[done]'hd) = 0 ∧ TOn l (SAP p q 1 (l[done]'hd)) sure (done + 1)) ∨ (SAE p q 1 (l[done]'hd) ≠ 0 ∧ TOff l (SAP p q 1 (l[done]'hd)) sure done) := by
  unfold SAE SAP
  rw [if_pos hr, if_pos hr]
  rcases t_app hd hq hl hs h with ⟨h1, h2⟩ | ⟨h1, h2⟩
  · exact .inl ⟨by rw [h1]; rfl, h2⟩
  · exact .inr ⟨by omega, h2⟩
theorem t_sync_on {l : List Rc} {p : Pw} {sure done q : Nat} {t : List UInt8} (h : TOn l p sure (done + 1)) :
    (p.wrc 2 q (sgn 1) t = 0 ∧ TOn l (p.wr 2 q (sgn 1) t) (done + 1) (done + 1)) ∨ (p.wrc 2 q (sgn 1) t ≠ 0 ∧ TOff l (p.wr 2 q (sgn 1) t) sure done) := by
  obtain ⟨ho, su, hE, h1, h2⟩ := h
  obtain ⟨e1, e2⟩ := one_sync (s := su) sgn_nm (b := bys (l.take (done + 1)))
  rcases after_cases p ho (wrE 2 q p.E (sgn 1) t) (wrR 2 q p.E (sgn 1) t) with ⟨c, a⟩ | ⟨c, a⟩
  · refine .inr ⟨?_, ?_⟩
    · show p.code _ ≠ 0
      rw [c]; decide
    · show TOff l (p.after _) sure done
      rw [a]
      exact toff_of (p := p) hE (by show aSync p.E _ = _; rw [hE, e2]) h1 (Nat.le_trans h1 h2) h2 (Nat.le_refl _) (Nat.le_refl _) (Nat.le_refl _)
  · refine .inl ⟨?_, ?_⟩
    · show p.code _ = 0
      rw [c]
      show eFind p.E _ = 0
      rw [hE, e1]
    · show TOn l (p.after _) (done + 1) (done + 1)
      rw [a]
      refine ⟨ho, (bys (l.take (done + 1))).length, ?_, Nat.le_refl _, Nat.le_refl _⟩
      show aSync p.E (sgn 1) = _
      rw [hE, e2]
theorem t_create (l : List Rc) (fu : Int) (ks : List Int) (q : Nat) (t : List UInt8) :
    ((⟨fu, ks, 0, false, []⟩ : Pw).wrc 0 q (sgn 1) t = 0 ∧ TOn l ((⟨fu, ks, 0, false, []⟩ : Pw).wr 0 q (sgn 1) t) 0 0) ∨ ((⟨fu, ks, 0, false, []⟩ : Pw).wrc 0 q (sgn 1) t ≠ 0 ∧ TOff l ((⟨fu, ks, 0, false, []⟩ : Pw).wr 0 q (sgn 1) t) 0 0) := by
  obtain ⟨e1, e2⟩ := one_create sgn_nm
  rcases after_cases (⟨fu, ks, 0, false, []⟩ : Pw) rfl (wrE 0 q [] (sgn 1) t) (wrR 0 q [] (sgn 1) t) with ⟨c, a⟩ | ⟨c, a⟩
  · refine .inr ⟨?_, ?_⟩
    · show Pw.code _ _ ≠ 0
      exact fun h => by rw [c] at h; cases h
    · show TOff l (Pw.after _ _) 0 0
      rw [a]
      have hz : bys (l.take 0) = [] := by simp [bys]
      cases hb : oddK ks
      · refine ⟨rfl, 0, .inl ⟨?_, rfl⟩, by rw [hz]; simp, Nat.zero_le _⟩
        rfl
      · obtain ⟨m, e, m1, m2⟩ := one_crash (N := sgn 1) (b := []) (s := 0) ks (Nat.le_refl _)
        obtain rfl : m = 0 := by simpa using m2
        refine ⟨rfl, 0, .inr ?_, by rw [hz]; simp, Nat.zero_le _⟩
        show aCrash ks (aCreate [] (sgn 1)) = _
        rw [e2, e]; simp
  · refine .inl ⟨?_, ?_⟩
    · show Pw.code _ _ = 0
      exact c.trans e1
    · show TOn l (Pw.after _ _) 0 0
      rw [a]
      refine ⟨rfl, 0, ?_, by simp [bys], Nat.zero_le _⟩
      show aCreate [] (sgn 1) = _
      rw [e2]; simp [bys]
/-- Begin. -/
theorem t_begin {l : List Rc} (fu : Int) (ks : List Int) {q : Nat} (h0 : 0 < l.length) (hq : 65536 ≤ q) (hl : (bys l).length ≤ 65536) (hw : wok (l[0]'h0) [] = true) (hs : (l[0]'h0).s = 1) :
    (SBE ⟨fu, ks, 0, false, []⟩ q (l[0]'h0) [] = 0 ∧ TOn l (SBP ⟨fu, ks, 0, false, []⟩ q (l[0]'h0) []) 1 1) ∨ (SBE ⟨fu, ks, 0, false, []⟩ q (l[0]'h0) [] ≠ 0 ∧ TOff l (SBP ⟨fu, ks, 0, false, []⟩ q (l[0]'h0) []) 0 0) := by
  unfold SBE SBP
  rw [if_pos hw, if_pos hw, hs, bys_one]
  rcases t_create l fu ks q (byR (l[0]'h0)) with ⟨c0, k0⟩ | ⟨c0, k0⟩
  · have z0 : bC q (sgn 1) (byR (l[0]'h0)) ⟨fu, ks, 0, false, []⟩ 0 = 0 := c0
    rcases t_app h0 hq hl (Nat.le_refl _) (.inl k0) with ⟨c1, k1⟩ | ⟨c1, k1⟩
    · have z1 : bC q (sgn 1) (byR (l[0]'h0)) ⟨fu, ks, 0, false, []⟩ 1 = 0 := c1
      have e1 : bErr q (sgn 1) (byR (l[0]'h0)) ⟨fu, ks, 0, false, []⟩ = bC q (sgn 1) (byR (l[0]'h0)) ⟨fu, ks, 0, false, []⟩ 2 := by unfold bErr; rw [if_neg (fun h => h z0), if_neg (fun h => h z1)]
      have e2 : bPow q (sgn 1) (byR (l[0]'h0)) ⟨fu, ks, 0, false, []⟩ = bP q (sgn 1) (byR (l[0]'h0)) ⟨fu, ks, 0, false, []⟩ 3 := by unfold bPow; rw [if_neg (fun h => h z0), if_neg (fun h => h z1)]
      rw [e1, e2]
      rcases t_sync_on (q := q) (t := byR (l[0]'h0)) k1 with ⟨c2, k2⟩ | ⟨c2, k2⟩
      · exact .inl ⟨congrArg Int.ofNat c2, k2⟩
      · exact .inr ⟨fun h => c2 (Int.ofNat.inj h), k2⟩
    · have z1 : bC q (sgn 1) (byR (l[0]'h0)) ⟨fu, ks, 0, false, []⟩ 1 ≠ 0 := c1
      have e1 : bErr q (sgn 1) (byR (l[0]'h0)) ⟨fu, ks, 0, false, []⟩ = bC q (sgn 1) (byR (l[0]'h0)) ⟨fu, ks, 0, false, []⟩ 1 := by unfold bErr; rw [if_neg (fun h => h z0), if_pos z1]
      have e2 : bPow q (sgn 1) (byR (l[0]'h0)) ⟨fu, ks, 0, false, []⟩ = bP q (sgn 1) (byR (l[0]'h0)) ⟨fu, ks, 0, false, []⟩ 2 := by unfold bPow; rw [if_neg (fun h => h z0), if_pos z1]
      rw [e1, e2]
      exact .inr ⟨fun h => z1 (Int.ofNat.inj h), k1⟩
  · have z0 : bC q (sgn 1) (byR (l[0]'h0)) ⟨fu, ks, 0, false, []⟩ 0 ≠ 0 := c0
    have e1 : bErr q (sgn 1) (byR (l[0]'h0)) ⟨fu, ks, 0, false, []⟩ = bC q (sgn 1) (byR (l[0]'h0)) ⟨fu, ks, 0, false, []⟩ 0 := by unfold bErr; rw [if_pos z0]
    have e2 : bPow q (sgn 1) (byR (l[0]'h0)) ⟨fu, ks, 0, false, []⟩ = bP q (sgn 1) (byR (l[0]'h0)) ⟨fu, ks, 0, false, []⟩ 1 := by unfold bPow; rw [if_pos z0]
    rw [e1, e2]
    exact .inr ⟨fun h => z0 (Int.ofNat.inj h), k0⟩
/-- What is read of it, in numbers. -/
theorem t_whole {l : List Rc} {k sure done : Nat} (h1 : (bys (l.take sure)).length ≤ k) (h2 : k ≤ (bys (l.take (done + 1))).length) (hs : sure ≤ l.length) : sure ≤ whole l k ∧ whole l k ≤ done + 1 := by
  obtain ⟨w1, w2, w3⟩ := whole_spec l k
  constructor
  · rcases Nat.lt_or_ge (whole l k) sure with h | h
    · have := w3 (by omega)
      have := bys_take_le (l := l) (i := whole l k + 1) (j := sure) h
      omega
    · exact h
  · rcases Nat.lt_or_ge (done + 1) (whole l k) with h | h
    · have h3 := bys_take_le (l := l) (i := done + 1 + 1) (j := whole l k) h
      have h4 : done + 1 < l.length := by omega
      have h5 := bys_take h4
      have h6 := byR_lo (l[done + 1]'h4)
      rw [h5, List.length_append] at h3
      omega
    · exact h
theorem t_sync {l : List Rc} {p : Pw} {sure done q : Nat} {t : List UInt8} (hs : sure ≤ done) (h : TOn l p sure done ∨ TOff l p sure done) :
    (p.wrc 2 q (sgn 1) t = 0 ∧ TOn l (p.wr 2 q (sgn 1) t) done done) ∨ (p.wrc 2 q (sgn 1) t ≠ 0 ∧ TOff l (p.wr 2 q (sgn 1) t) sure done) := by
  rcases h with ⟨ho, su, hE, h1, h2⟩ | h
  · obtain ⟨e1, e2⟩ := one_sync (s := su) sgn_nm (b := bys (l.take done))
    rcases after_cases p ho (wrE 2 q p.E (sgn 1) t) (wrR 2 q p.E (sgn 1) t) with ⟨c, a⟩ | ⟨c, a⟩
    · refine .inr ⟨?_, ?_⟩
      · show p.code _ ≠ 0
        rw [c]; decide
      · show TOff l (p.after _) sure done
        rw [a]
        exact toff_of (p := p) hE (by show aSync p.E _ = _; rw [hE, e2]) h1 (Nat.le_trans h1 h2) h2 (Nat.le_refl _) (by omega) (by omega)
    · refine .inl ⟨?_, ?_⟩
      · show p.code _ = 0
        rw [c]
        show eFind p.E _ = 0
        rw [hE, e1]
      · show TOn l (p.after _) done done
        rw [a]
        refine ⟨ho, (bys (l.take done)).length, ?_, Nat.le_refl _, Nat.le_refl _⟩
        show aSync p.E (sgn 1) = _
        rw [hE, e2]
  · obtain ⟨c, a⟩ := after_off p h.1 (wrE 2 q p.E (sgn 1) t) (wrR 2 q p.E (sgn 1) t)
    refine .inr ⟨?_, ?_⟩
    · show p.code _ ≠ 0
      rw [c]; decide
    · show TOff l (p.after _) sure done
      rw [a]; exact h
theorem t_blow {l : List Rc} {p : Pw} {sure done : Nat} (h : TOn l p sure done ∨ TOff l p sure done) : TOff l p.blow sure done := by
  rcases h with ⟨ho, su, hE, h1, h2⟩ | h
  · rw [blow_on ho]
    obtain ⟨m, e, m1, m2⟩ := one_crash (N := sgn 1) p.ks h2
    refine ⟨rfl, m, .inr ?_, by omega, Nat.le_trans m2 (bys_take_le (by omega))⟩
    show aCrash p.ks p.E = _
    rw [hE, e, bys_cutAt l done m2]
  · rw [blow_off h.1]; exact h
/-- What the disk has then. -/
theorem t_read {l : List Rc} {p : Pw} {sure done : Nat} (h : TOff l p sure done) : ∃ k, rd p.E (sgn 1) = (bys l).take k ∧ (bys (l.take sure)).length ≤ k ∧ k ≤ (bys (l.take (done + 1))).length ∧ k ≤ (bys l).length := by
  obtain ⟨_, k, h2, h3, h4⟩ := h
  refine ⟨k, ?_, h3, h4, Nat.le_trans h4 (bys_take_all l _)⟩
  rcases h2 with ⟨e, rfl⟩ | e
  · rw [e, none_rd]; simp
  · rw [e, one_rd sgn_nm]
end Go.Proofs.YthnelnfefllhpaaGreatDoor
