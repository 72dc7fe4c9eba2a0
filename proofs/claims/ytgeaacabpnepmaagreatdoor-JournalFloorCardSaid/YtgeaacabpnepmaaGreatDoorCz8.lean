/- Texts of the walk. -/
import Derived.Test.YtgeaacabpnepmaaGreatDoorNz8
import Derived.Test.YtgeaacabpnepmaaGreatDoorDz8
import Derived.Test.YtgeaacabpnepmaaGreatDoorPz8
/- Texts of elder layers, one behind the other. -/
/- What a file has of a record, by the program. -/
namespace Go.Proofs.YtgeaacabpnepmaaGreatDoor
open Go.RowKit
set_option linter.unusedVariables false
set_option linter.unusedSimpArgs false
set_option maxRecDepth 20000

def okB (r : Rc) (first : Bool) : Bool := mayB r && (decide (r.k = 3) == first)
theorem okB_iff {r : Rc} {first : Bool} : okB r first = true ↔ mayB r = true ∧ decide (r.k = 3) = first := by
  unfold okB
  rw [Bool.and_eq_true, beq_iff_eq]
def bA (r : Rc) (first : Bool) : List UInt8 := if okB r first = true then byR r else []
def bE (r : Rc) (first : Bool) : Int := if okB r first = true then 0 else 4
attribute [local go_sem ↓] ld_rec st_rec ld_int
set_option maxHeartbeats 2000000 in
theorem bytes_c (r : Rc) (first : Bool) (w : World) (hf : r.fit) (ht : Tab w) :
    Calls Tryz.prog 150 #[.agg (rcs r), .bool first] w fun E w' => E = .returned (.tuple #[.string (str (bA r first)), .int .i64 (bE r first)]) ∧ Below w.heap.size w w' := by
  have HT := Lib.hid ht
  have HF := Lib.hid hf
  have H0 := Lib.hid (Loc.one w 114 (rcs r))
  have h0 : str [] = ⟨#[]⟩ := rfl
  clear ht hf
  by_cases hm : mayB r = true
  · have HP : Hid (∀ w, Calls Tryz.prog 196 #[.agg (rcs r)] w fun E w' => E = .returned (.tuple #[.string (str (encR r)), .int .i64 0]) ∧ Below w.heap.size w w') := fun w => by
      have := put_c r w HF.out
      rwa [(pA_of hm).1, (pA_of hm).2] at this
    have HQ : Hid (∀ w, Tab w → Calls Tryz.prog 197 #[.string (str (encR r))] w fun E w' => E = .returned (.tuple #[.string (str (byR r)), .int .i64 0]) ∧ Below w.heap.size w w') := fun w ht => by
      have := fput_c (encR r) w (Nat.le_trans (encR_le r) (by decide)) ht
      rw [(putS_of r).1, (putS_of r).2] at this
      exact this.mono fun E w' ⟨h1, h2⟩ => ⟨h1, below_of_grown h2⟩
    by_cases hk : decide (r.k = 3) = first
    · have hA : bA r first = byR r := if_pos (okB_iff.2 ⟨hm, hk⟩)
      have hE : bE r first = 0 := if_pos (okB_iff.2 ⟨hm, hk⟩)
      rw [hA, hE]
      have hkk : (r.k == 3) = first := by rw [← hk]; by_cases h : r.k = 3 <;> simp [h]
      clear hA hE hm hk
      go_enter Tryz.func150, Tryz.ntmps150
      go_upto_region 1 with fail
      generalize w.alloc (.cells (rcs r) 114) = wa at *
      have l0 := H0.out.ldA ty_rec 0 rfl 0 (vs := rcs r) (by simp [rcs]) (Nat.le_of_ble_eq_true rfl)
      go_wp2_with fail
      refine (HP.out _).mono ?_
      rintro E w1 ⟨rfl, hb1⟩
      have H1 := Lib.hid (H0.out.to hb1)
      clear hb1 l0
      have l1 := H1.out.ldO ty_int 0 rfl 0 (v := .int .i64 r.k) rfl
      go_wp2_with fail
      refine (HQ.out _ (tab_b HT.out HT.out.1 H1.out.be)).mono ?_
      rintro E w2 ⟨rfl, hb2⟩
      have H2 := Lib.hid (H1.out.be.trans (hb2.mono H1.out.size))
      clear hb2
      go_wp2
      go_ret2
      exact ⟨rfl, H2.out⟩
    · have hA : bA r first = [] := if_neg (fun h => hk (okB_iff.1 h).2)
      have hE : bE r first = 4 := if_neg (fun h => hk (okB_iff.1 h).2)
      rw [hA, hE]
      have hkk : (r.k == 3) = !first := by
        by_cases h : r.k = 3
        · cases first <;> simp [h] at hk ⊢
        · cases first <;> simp [h] at hk ⊢
      clear hA hE hm hk HQ
      go_enter Tryz.func150, Tryz.ntmps150
      go_upto_region 1 with fail
      generalize w.alloc (.cells (rcs r) 114) = wa at *
      have l0 := H0.out.ldA ty_rec 0 rfl 0 (vs := rcs r) (by simp [rcs]) (Nat.le_of_ble_eq_true rfl)
      go_wp2_with fail
      refine (HP.out _).mono ?_
      rintro E w1 ⟨rfl, hb1⟩
      have H1 := Lib.hid (H0.out.to hb1)
      clear hb1 l0
      have l1 := H1.out.ldO ty_int 0 rfl 0 (v := .int .i64 r.k) rfl
      go_wp2
      go_ret2
      exact ⟨rfl, H1.out.be⟩
  · have HP : Hid (∀ w, Calls Tryz.prog 196 #[.agg (rcs r)] w fun E w' => E = .returned (.tuple #[.string (str []), .int .i64 4]) ∧ Below w.heap.size w w') := fun w => by
      have := put_c r w HF.out
      rwa [show pA r = [] from if_neg hm, show pE r = 4 from if_neg hm] at this
    have hA : bA r first = [] := if_neg (fun h => hm (okB_iff.1 h).1)
    have hE : bE r first = 4 := if_neg (fun h => hm (okB_iff.1 h).1)
    rw [hA, hE]
    clear hA hE hm
    go_enter Tryz.func150, Tryz.ntmps150
    go_upto_region 1 with fail
    generalize w.alloc (.cells (rcs r) 114) = wa at *
    have l0 := H0.out.ldA ty_rec 0 rfl 0 (vs := rcs r) (by simp [rcs]) (Nat.le_of_ble_eq_true rfl)
    go_wp2_with fail
    refine (HP.out _).mono ?_
    rintro E w1 ⟨rfl, hb1⟩
    have H1 := Lib.hid (H0.out.to hb1)
    clear hb1 l0
    go_wp2
    go_ret2
    exact ⟨rfl, H1.out.be⟩
end Go.Proofs.YtgeaacabpnepmaaGreatDoor
/- What a file of records has, by the program. -/
namespace Go.Proofs.YtgeaacabpnepmaaGreatDoor
open Go.RowKit
set_option linter.unusedVariables false
set_option linter.unusedSimpArgs false
set_option maxRecDepth 20000

def wok (h : Rc) (l : List Rc) : Bool := okB h true && l.all (okB · false)
def wA (h : Rc) (l : List Rc) : List UInt8 := if wok h l = true then bys (h :: l) else []
def wE (h : Rc) (l : List Rc) : Int := if wok h l = true then 0 else 4
theorem join_none (xs : List (List UInt8)) : Lib.join xs [] = xs.flatten := by
  cases xs with
  | nil => rfl
  | cons x r => rw [Lib.join_cons]; simp [Lib.joinTail]
attribute [local go_sem ↓] ld_rec st_rec
set_option maxHeartbeats 4000000 in
theorem whole_c (h : Rc) (l : List Rc) (ao : Option Addr) (cap : Nat) (w : World) (hf : h.fit) (hl : ∀ r ∈ l, r.fit) (hn : l.length ≤ 400000) (ha : RcsAt w ao l) (ht : Tab w) :
    Calls Tryz.prog 159 #[.agg (rcs h), .slice ao l.length cap] w fun E w' => E = .returned (.tuple #[.string (str (wA h l)), .int .i64 (wE h l)]) ∧ Below w.heap.size w w' := by
  have HT := Lib.hid ht
  have HF := Lib.hid hf
  have HLF := Lib.hid hl
  have HA := Lib.hid ha
  have H0 := Lib.hid (Loc.one w 114 (rcs h))
  have h0 : str [] = ⟨#[]⟩ := rfl
  obtain ⟨Q, hQ⟩ : ∃ Q : Ending → World → Prop, Q = fun E w' => E = .returned (.tuple #[.string (str (wA h l)), .int .i64 (wE h l)]) ∧ Below w.heap.size w w' := ⟨_, rfl⟩
  rw [← hQ]
  have HQ := Lib.hid hQ
  clear ht hf hl ha hQ
  by_cases h1 : okB h true = true
  · have HB : Hid (bA h true = byR h ∧ bE h true = 0) := ⟨if_pos h1, if_pos h1⟩
    have H1 := Lib.hid h1
    clear h1
    go_enter Tryz.func159, Tryz.ntmps159
    go_upto_region 1 with fail
    generalize w.alloc (.cells (rcs h) 114) = wa at *
    have l0 := H0.out.ldA ty_rec 0 rfl 0 (vs := rcs h) (by simp [rcs]) (Nat.le_of_ble_eq_true rfl)
    go_wp2_with fail
    refine (bytes_c h true _ HF.out (tab_b HT.out HT.out.1 H0.out.be)).mono ?_
    rintro E w1 ⟨rfl, hb1⟩
    rw [HB.out.1, HB.out.2]
    have HB1 := Lib.hid (H0.out.be.trans (hb1.mono H0.out.size))
    have HA1 := Lib.hid (HA.out.new HB1.out)
    clear hb1 l0 H0
    have hL0 : Lst (w1.alloc (.cells #[.string (str (byR h))] 9)) w.heap.size (.slice (some ⟨w1.heap.size, 0, none⟩) 1 1) [byR h] :=
      ⟨rfl, .inr ⟨w1.heap.size, 1, #[.string (str (byR h))], rfl, HB1.out.size, heap_alloc_new w1 _, Nat.le_refl _, by simp [maxLen], rfl, by simp⟩⟩
    have HL0 := Lib.hid hL0
    have HB2 := Lib.hid (HB1.out.alloc HB1.out.size (.cells #[.string (str (byR h))] 9))
    clear hL0
    go_wp2
    go_loopw [25, 8, 4, 5] (fun iv pv sv ev wr => ∃ (k : Nat) (ao2 : Option Addr) (cp : Nat), k ≤ l.length ∧ iv = .int .i64 (k : Int) ∧ pv = .slice ao2 (k + 1) cp ∧ sv = .string (str []) ∧ ev = .int .i64 0 ∧ Hid ((l.take k).all (okB · false) = true) ∧ Hid (Lst wr w.heap.size (.slice ao2 (k + 1) cp) (byR h :: (l.take k).map byR)) ∧ Hid (Below w.heap.size w wr)) (fun iv _ _ _ _ => l.length - (intOf iv).toNat)
    case atStart => exact ⟨0, some ⟨w1.heap.size, 0, none⟩, 1, Nat.zero_le _, rfl, rfl, by rw [h0], rfl, by show _ = _; simp, by show Lst _ _ _ _; simpa using HL0.out, HB2.out⟩
    case round =>
      obtain ⟨k, ao2, cp, hk, rfl, rfl, rfl, rfl, HOK, HLs, HB3⟩ := hrel
      by_cases hlt : k < l.length
      · obtain ⟨b, o, rfl, hload⟩ := HA.out.one hlt
        have l1 := (hload _ HB3.out).1 _ ty_rec
        have hrf := HLF.out _ (List.getElem_mem hlt)
        have HTK := Lib.hid (List.take_add_one (l := l) (i := k))
        have hg := List.getElem?_eq_getElem hlt
        have HG := Lib.hid hg
        have HLT := Lib.hid hlt
        clear hg hload
        generalize l[k]'hlt = r at *
        obtain ⟨g5, w5, z5, s5, h5, q5⟩ := (Loc.nil (Nat.le_refl wr.heap.size)).newA ty_rec #[.int .i64 0, .int .u64 0, .int .u8 0, .int .u8 0, .int .u8 0, .int .u64 0, .int .u64 0, .int .u64 0, .int .u8 0] (rcs r) rfl rfl (List.all_eq_true.2 (rcs_one r))
        have l5 := h5.ldA ty_rec 0 rfl 0 (vs := rcs r) (by simp [rcs]) (Nat.le_of_ble_eq_true rfl)
        have HB5 := Lib.hid (HB3.out.trans ((below_of_grown q5).mono HB3.out.size))
        have HL5 := Lib.hid (HLs.out.new (below_of_grown q5))
        have HRF := Lib.hid hrf
        clear h5 q5 hrf
        by_cases h2 : okB r false = true
        · have HBr : Hid (bA r false = byR r ∧ bE r false = 0) := ⟨if_pos h2, if_pos h2⟩
          have H2 := Lib.hid h2
          clear h2
          go_wp2_with fail
          refine (bytes_c r false _ HRF.out (tab_b HT.out HT.out.1 HB5.out)).mono ?_
          rintro E w6 ⟨rfl, hb6⟩
          rw [HBr.out.1, HBr.out.2]
          have HB6 := Lib.hid (HB5.out.trans (hb6.mono HB5.out.size))
          have HL6 := Lib.hid (HL5.out.new hb6)
          clear hb6 l1 l5 s5 z5
          obtain ⟨i0, hi0, hz0, hz1, hz2⟩ := info_parts info_st
          have HI0 := Lib.hid hi0
          have HZ0 := Lib.hid hz0
          have HZ1 := Lib.hid hz1
          have HZ2 := Lib.hid hz2
          clear hi0 hz0 hz1 hz2
          have hlen : (byR h :: (l.take k).map byR).length = k + 1 := by simp; omega
          have HLN := Lib.hid hlen
          have hb1 : (k + 1) + 1 ≤ maxLen := by simp only [maxLen]; omega
          have hb2 : ((k + 1) + 1) * 16 ≤ 140737488355328 := by omega
          have hown : w6.ownsRow w.heap.size 9 1 (.slice ao2 (k + 1) cp) (k + 1) ((byR h :: (l.take k).map byR).map fun n => .string (str n)) := by have := HL6.out; unfold Lst at this; rwa [hlen] at this
          clear hlen
          go_wp2_with (at_builtin; refine wpList_append_lies _ rfl (.tmp 37) (.tmp 39) 78 rfl w.heap.size 9 i0 (.string ⟨#[]⟩) 1 16 Tryz.underlying78 HI0.out HZ0.out HZ1.out HZ2.out rfl (by decide) _ (k + 1) _ (by simp [Act.eval]) (World.ownsRow.alloc hown _) ⟨w6.heap.size, 0, none⟩ 1 1 [.string (str (byR r))] (by simp [Act.eval]) rfl (cell_one_new _ _ _) (by simp [Value.oneCell']) (by decide) hb1 hb2 (by have := HB6.out.size; simp; omega) _ rfl ?_; intro g' cap' w7 hown1 hgr hat2 hlt1)
          have HB7 := Lib.hid ((HB6.out.alloc HB6.out.size (.cells #[.string (str (byR r))] 9)).grown hgr (by have := HB6.out.size; simp; omega) (fun k e => (hown.lt k e).1))
          have HO7 := Lib.hid hown1
          clear hgr hat2 hown1 hlt1 hown
          go_wp2
          go_roundw
          case rel =>
            have hlt := HLT.out
            refine ⟨k + 1, _, _, hlt, by go_num, rfl, by rw [h0], rfl, ?_, ?_, HB7.out⟩
            · show _ = _
              rw [HTK.out, HG.out, List.all_append, HOK.out]
              simpa using H2.out
            · show Lst _ _ _ _
              rw [HTK.out, HG.out, Option.toList_some, List.map_append, ← List.cons_append]
              have hx := HO7.out
              unfold Lst
              rw [List.map_append, List.length_append, HLN.out]
              exact hx
          case measure => have := HLT.out; simp [intOf]; omega
        · have HBr : Hid (bA r false = [] ∧ bE r false = 4) := ⟨if_neg h2, if_neg h2⟩
          have HN : Hid (wok h l = false) := by
            show _ = _
            unfold wok
            rw [Bool.and_eq_false_iff]
            refine .inr (Bool.eq_false_iff.2 fun h3 => h2 ?_)
            rw [List.all_eq_true] at h3
            exact h3 r (List.mem_of_getElem? HG.out)
          clear h2
          go_wp2_with fail
          refine (bytes_c r false _ HRF.out (tab_b HT.out HT.out.1 HB5.out)).mono ?_
          rintro E w6 ⟨rfl, hb6⟩
          rw [HBr.out.1, HBr.out.2]
          have HB6 := Lib.hid (HB5.out.trans (hb6.mono HB5.out.size))
          clear hb6 l1 l5 s5 z5
          go_wp2
          rw [HQ.out]
          refine ⟨?_, HB6.out⟩
          unfold wA wE
          rw [HN.out]
          rfl
      · obtain rfl : k = l.length := by omega
        have HJ : Hid (Lib.join (byR h :: (l.take l.length).map byR) [] = bys (h :: l)) := by
          show _ = _
          rw [join_none, List.take_length]; rfl
        have HJL : Hid ((bys (h :: l)).length ≤ 32 * 400001) := by
          show _ ≤ _
          have := bys_len (h :: l)
          simp only [List.length_cons] at this
          omega
        have HW : Hid (wok h l = true) := by
          show _ = _
          have := HOK.out
          rw [List.take_length] at this
          unfold wok
          rw [H1.out, this]; rfl
        go_wp2_with fail
        rw [← h0]
        refine (join_c [] _ HLs.out (by simp; omega) (by rw [HJ.out]; have := HJL.out; omega)).mono ?_
        rintro E w6 ⟨rfl, hb6⟩
        rw [HJ.out]
        have HB6 := Lib.hid (HB3.out.trans (hb6.mono HB3.out.size))
        clear hb6
        go_wp2
        rw [HQ.out]
        refine ⟨?_, HB6.out⟩
        unfold wA wE
        rw [HW.out]
        rfl
  · have HB : Hid (bA h true = [] ∧ bE h true = 4) := ⟨if_neg h1, if_neg h1⟩
    have HN : Hid (wok h l = false) := by show _ = _; unfold wok; rw [Bool.eq_false_iff.2 h1]; rfl
    clear h1
    go_enter Tryz.func159, Tryz.ntmps159
    go_upto_region 1 with fail
    generalize w.alloc (.cells (rcs h) 114) = wa at *
    have l0 := H0.out.ldA ty_rec 0 rfl 0 (vs := rcs h) (by simp [rcs]) (Nat.le_of_ble_eq_true rfl)
    go_wp2_with fail
    refine (bytes_c h true _ HF.out (tab_b HT.out HT.out.1 H0.out.be)).mono ?_
    rintro E w1 ⟨rfl, hb1⟩
    rw [HB.out.1, HB.out.2]
    have HB1 := Lib.hid (H0.out.be.trans (hb1.mono H0.out.size))
    clear hb1 l0 H0
    go_wp2
    rw [HQ.out]
    refine ⟨?_, HB1.out⟩
    unfold wA wE
    rw [HN.out]
    rfl
end Go.Proofs.YtgeaacabpnepmaaGreatDoor
/- Append to a segment, by the program. -/
namespace Go.Proofs.YtgeaacabpnepmaaGreatDoor
open Go.RowKit
set_option linter.unusedVariables false
set_option linter.unusedSimpArgs false
set_option maxRecDepth 20000

def sgn (n : Nat) : List UInt8 := 115 :: hex n
theorem sgn_len (n : Nat) : (sgn n).length = 17 := by simp [sgn, hex_len]
def SAE (p : Pw) (q n : Nat) (r : Rc) : Int := if okB r false = true then ((p.wrc 1 q (sgn n) (byR r) : Nat) : Int) else 4
def SAP (p : Pw) (q n : Nat) (r : Rc) : Pw := if okB r false = true then p.wr 1 q (sgn n) (byR r) else p
def SAPost (S : Nat → Prop) (w : World) (g : Nat) (dv : Value) (q : Nat) (ko : Option Addr) (kc : Nat) (p : Pw) (n : Nat) (r : Rc) : Ending → World → Prop := fun R w' =>
  R = .returned (.int .i64 (SAE p q n r)) ∧ PwC S w' g dv q ko kc (SAP p q n r) ∧ Tu (fun x => x = g ∨ S x) w w'
attribute [local go_sem ↓] ld_rec st_rec
set_option maxHeartbeats 2000000 in
theorem sappend_c {S : Nat → Prop} {g q : Nat} {dv : Value} {kc : Nat} {ko : Option Addr} {p : Pw} (n : Nat) (r : Rc) (w : World) (h : PwC S w g dv q ko kc p) (hS : ∀ x, w.heap.size ≤ x → S x) (hn : n < 18446744073709551616) (hf : r.fit) (hp : p.n < 1000000) (ht : Tab w) :
    Calls Tryz.prog 106 #[.pointer (some ⟨g, 0, none⟩), .int .u64 (n : Int), .agg (rcs r)] w (SAPost S w g dv q ko kc p n r) := by
  have HT := Lib.hid ht
  have HF := Lib.hid hf
  have HP := Lib.hid h
  have HS := Lib.hid hS
  have HN := Lib.hid hn
  have HPN := Lib.hid hp
  have H0 := Lib.hid (Loc.one w 114 (rcs r))
  have h0 : str [] = ⟨#[]⟩ := rfl
  obtain ⟨Q, hQ⟩ : ∃ Q : Ending → World → Prop, Q = SAPost S w g dv q ko kc p n r := ⟨_, rfl⟩
  rw [← hQ]
  have HQ := Lib.hid hQ
  clear ht hf h hS hn hp hQ
  by_cases h1 : okB r false = true
  · have HB : Hid (bA r false = byR r ∧ bE r false = 0) := ⟨if_pos h1, if_pos h1⟩
    have HO := Lib.hid h1
    clear h1
    go_enter Tryz.func106, Tryz.ntmps106
    go_upto_region 1 with fail
    generalize w.alloc (.cells (rcs r) 114) = wa at *
    have l0 := H0.out.ldA ty_rec 0 rfl 0 (vs := rcs r) (by simp [rcs]) (Nat.le_of_ble_eq_true rfl)
    go_wp2_with fail
    refine (bytes_c r false _ HF.out (tab_b HT.out HT.out.1 H0.out.be)).mono ?_
    rintro E w1 ⟨rfl, hb1⟩
    rw [HB.out.1, HB.out.2]
    have HB1 := Lib.hid (H0.out.be.trans (hb1.mono H0.out.size))
    clear hb1 l0 H0
    go_wp2_with fail
    refine (seg_c n _ HN.out).mono ?_
    rintro E w2 ⟨rfl, hb2⟩
    have HB2 := Lib.hid (HB1.out.trans (hb2.mono HB1.out.size))
    clear hb2
    go_wp2_with fail
    refine (pappend_c (sgn n) (byR r) w2 (HP.out.new HB2.out) (fun x hx => HS.out x (Nat.le_trans HB2.out.size hx)) (by rw [sgn_len]; decide) (Nat.le_trans (byR_hi r) (by decide)) HPN.out).mono ?_
    rintro E w3 ⟨rfl, hp3, ht3⟩
    have HP3 := Lib.hid hp3
    have HT3 := Lib.hid ht3
    clear hp3 ht3
    go_wp2
    rw [HQ.out]
    refine ⟨?_, ?_, (Tu.new HB2.out).trans HT3.out (fun _ _ h => h)⟩
    · unfold SAE; rw [if_pos HO.out]; rfl
    · unfold SAP; rw [if_pos HO.out]; exact HP3.out
  · have HB : Hid (bA r false = [] ∧ bE r false = 4) := ⟨if_neg h1, if_neg h1⟩
    have HO := Lib.hid h1
    clear h1
    go_enter Tryz.func106, Tryz.ntmps106
    go_upto_region 1 with fail
    generalize w.alloc (.cells (rcs r) 114) = wa at *
    have l0 := H0.out.ldA ty_rec 0 rfl 0 (vs := rcs r) (by simp [rcs]) (Nat.le_of_ble_eq_true rfl)
    go_wp2_with fail
    refine (bytes_c r false _ HF.out (tab_b HT.out HT.out.1 H0.out.be)).mono ?_
    rintro E w1 ⟨rfl, hb1⟩
    rw [HB.out.1, HB.out.2]
    have HB1 := Lib.hid (H0.out.be.trans (hb1.mono H0.out.size))
    clear hb1 l0 H0
    go_wp2
    rw [HQ.out]
    refine ⟨?_, ?_, Tu.new HB1.out⟩
    · unfold SAE; rw [if_neg HO.out]; rfl
    · unfold SAP; rw [if_neg HO.out]; exact HP.out.new HB1.out
end Go.Proofs.YtgeaacabpnepmaaGreatDoor
/- Begin's three steps in turn, by the program. -/
namespace Go.Proofs.YtgeaacabpnepmaaGreatDoor
open Go.RowKit
set_option linter.unusedVariables false
set_option linter.unusedSimpArgs false
set_option maxRecDepth 20000

def bP (q : Nat) (m t : List UInt8) (p : Pw) : Nat → Pw
  | 0 => p
  | j + 1 => (bP q m t p j).wr j q m t
def bC (q : Nat) (m t : List UInt8) (p : Pw) (j : Nat) : Nat := (bP q m t p j).wrc j q m t
def bErr (q : Nat) (m t : List UInt8) (p : Pw) : Nat := if bC q m t p 0 ≠ 0 then bC q m t p 0 else if bC q m t p 1 ≠ 0 then bC q m t p 1 else bC q m t p 2
def bPow (q : Nat) (m t : List UInt8) (p : Pw) : Pw := if bC q m t p 0 ≠ 0 then bP q m t p 1 else if bC q m t p 1 ≠ 0 then bP q m t p 2 else bP q m t p 3
theorem after_n (p : Pw) (E : List Ent) : (p.after E).n ≤ p.n + 1 := by
  unfold Pw.after
  split
  · omega
  · split <;> simp
theorem bP_n (q : Nat) (m t : List UInt8) (p : Pw) : ∀ j, (bP q m t p j).n ≤ p.n + j
  | 0 => Nat.le_refl _
  | j + 1 => by
    have h1 := after_n (bP q m t p j) (wrE j q (bP q m t p j).E m t)
    have h2 := bP_n q m t p j
    show ((bP q m t p j).after _).n ≤ _
    omega
structure Bx (S : Nat → Prop) (w : World) (g bp bf ba gs : Nat) (m t : List UInt8) : Prop where
  p : Cells w bp 50 #[.pointer (some ⟨g, 0, none⟩)]
  f : Cells w bf 9 #[.string (str m)]
  a : Cells w ba 9 #[.string (str t)]
  s : Cells w gs 57 #[.func (.func 161) #[] #[.pointer (some ⟨bp, 0, none⟩), .pointer (some ⟨bf, 0, none⟩)], .func (.func 163) #[] #[.pointer (some ⟨bp, 0, none⟩), .pointer (some ⟨bf, 0, none⟩), .pointer (some ⟨ba, 0, none⟩)], .func (.func 164) #[] #[.pointer (some ⟨bp, 0, none⟩), .pointer (some ⟨bf, 0, none⟩)]]
  n : ∀ x, x = bp ∨ x = bf ∨ x = ba ∨ x = gs → ¬ (x = g ∨ S x)
theorem Bx.tu {S : Nat → Prop} {w w' : World} {g bp bf ba gs : Nat} {m t : List UInt8} (h : Bx S w g bp bf ba gs m t) (k : Tu (fun x => x = g ∨ S x) w w') : Bx S w' g bp bf ba gs m t :=
  ⟨h.p.tu k (h.n _ (.inl rfl)), h.f.tu k (h.n _ (.inr (.inl rfl))), h.a.tu k (h.n _ (.inr (.inr (.inl rfl)))), h.s.tu k (h.n _ (.inr (.inr (.inr rfl)))), h.n⟩
section
variable {S : Nat → Prop} {g q bp bf ba gs : Nat} {dv : Value} {kc : Nat} {ko : Option Addr} {p : Pw}
theorem begin1_c (m t : List UInt8) (w : World) (hx : Bx S w g bp bf ba gs m t) (h : PwC S w g dv q ko kc p) (hS : ∀ x, w.heap.size ≤ x → S x) (hm : m.length ≤ maxLen) (hl : t.length ≤ maxLen) (hp : p.n < 1000000) :
    Calls Tryz.prog 161 #[.pointer (some ⟨bp, 0, none⟩), .pointer (some ⟨bf, 0, none⟩)] w (WPost S w g dv q ko kc p 0 m t) := by
  have HC := Lib.hid (pcreate_c m t w h hS hm hl hp)
  have c1 := hx.p.cell 0
  have c2 := hx.f.cell 0
  clear hx h hS
  go_enter Tryz.func161, Tryz.ntmps161
  go_wp2_with fail
  refine HC.out.mono ?_
  rintro R w1 ⟨rfl, hp1, ht1⟩
  have P1 := Lib.hid hp1
  have T1 := Lib.hid ht1
  clear hp1 ht1
  go_wp2
  go_ret
  exact ⟨rfl, P1.out, T1.out⟩
theorem begin2_c (m t : List UInt8) (w : World) (hx : Bx S w g bp bf ba gs m t) (h : PwC S w g dv q ko kc p) (hS : ∀ x, w.heap.size ≤ x → S x) (hm : m.length ≤ maxLen) (hl : t.length ≤ maxLen) (hp : p.n < 1000000) :
    Calls Tryz.prog 163 #[.pointer (some ⟨bp, 0, none⟩), .pointer (some ⟨bf, 0, none⟩), .pointer (some ⟨ba, 0, none⟩)] w (WPost S w g dv q ko kc p 1 m t) := by
  have HC := Lib.hid (pappend_c m t w h hS hm hl hp)
  have c1 := hx.p.cell 0
  have c2 := hx.f.cell 0
  have c3 := hx.a.cell 0
  clear hx h hS
  go_enter Tryz.func163, Tryz.ntmps163
  go_wp2_with fail
  refine HC.out.mono ?_
  rintro R w1 ⟨rfl, hp1, ht1⟩
  have P1 := Lib.hid hp1
  have T1 := Lib.hid ht1
  clear hp1 ht1
  go_wp2
  go_ret
  exact ⟨rfl, P1.out, T1.out⟩
theorem begin3_c (m t : List UInt8) (w : World) (hx : Bx S w g bp bf ba gs m t) (h : PwC S w g dv q ko kc p) (hS : ∀ x, w.heap.size ≤ x → S x) (hm : m.length ≤ maxLen) (hl : t.length ≤ maxLen) (hp : p.n < 1000000) :
    Calls Tryz.prog 164 #[.pointer (some ⟨bp, 0, none⟩), .pointer (some ⟨bf, 0, none⟩)] w (WPost S w g dv q ko kc p 2 m t) := by
  have HC := Lib.hid (psync_c m t w h hS hm hl hp)
  have c1 := hx.p.cell 0
  have c2 := hx.f.cell 0
  clear hx h hS
  go_enter Tryz.func164, Tryz.ntmps164
  go_wp2_with fail
  refine HC.out.mono ?_
  rintro R w1 ⟨rfl, hp1, ht1⟩
  have P1 := Lib.hid hp1
  have T1 := Lib.hid ht1
  clear hp1 ht1
  go_wp2
  go_ret
  exact ⟨rfl, P1.out, T1.out⟩
end
end Go.Proofs.YtgeaacabpnepmaaGreatDoor
/- The steps in turn, by the program. -/
namespace Go.Proofs.YtgeaacabpnepmaaGreatDoor
open Go.RowKit
set_option linter.unusedVariables false
set_option linter.unusedSimpArgs false
set_option maxRecDepth 20000

def BPost (S : Nat → Prop) (w : World) (g : Nat) (dv : Value) (q : Nat) (ko : Option Addr) (kc : Nat) (p : Pw) (m t : List UInt8) : Ending → World → Prop := fun R w' =>
  R = .returned (.int .i64 (bErr q m t p : Nat)) ∧ PwC S w' g dv q ko kc (bPow q m t p) ∧ Tu (fun x => x = g ∨ S x) w w'
set_option maxHeartbeats 4000000 in
theorem inturn_c {S : Nat → Prop} {g q bp bf ba gs : Nat} {dv : Value} {kc : Nat} {ko : Option Addr} {p : Pw} (m t : List UInt8) (w : World) (hx : Bx S w g bp bf ba gs m t) (h : PwC S w g dv q ko kc p) (hS : ∀ x, w.heap.size ≤ x → S x) (hm : m.length ≤ maxLen) (hl : t.length ≤ maxLen) (hp : p.n + 3 < 1000000) :
    Calls Tryz.prog 160 #[.slice (some ⟨gs, 0, none⟩) 3 3] w (BPost S w g dv q ko kc p m t) := by
  have HX0 := Lib.hid hx
  have HP0 := Lib.hid h
  have HS := Lib.hid hS
  have HM := Lib.hid hm
  have HL := Lib.hid hl
  have HN := Lib.hid hp
  obtain ⟨Q, hQ⟩ : ∃ Q, Q = BPost S w g dv q ko kc p m t := ⟨_, rfl⟩
  rw [← hQ]
  have HQ := Lib.hid hQ
  clear hx h hS hm hl hp hQ
  go_enter Tryz.func160, Tryz.ntmps160
  go_wp2
  go_loopw [8] (fun iv wr => ∃ j : Nat, j ≤ 3 ∧ iv = .int .i64 (j : Int) ∧ Hid (∀ i, i < j → bC q m t p i = 0) ∧ Hid (PwC S wr g dv q ko kc (bP q m t p j)) ∧ Hid (Tu (fun x => x = g ∨ S x) w wr) ∧ Hid (Bx S wr g bp bf ba gs m t)) (fun iv _ => 3 - (intOf iv).toNat)
  case atStart => exact ⟨0, by omega, rfl, fun i hi => by omega, HP0.out, Tu.refl _ _, HX0.out⟩
  case round =>
    obtain ⟨j, hj, rfl, HZ0, HP, HT, HX⟩ := hrel
    clear HX0 HP0
    have hj4 : j = 0 ∨ j = 1 ∨ j = 2 ∨ j = 3 := by omega
    rcases hj4 with rfl | rfl | rfl | rfl
    · have c1 := HX.out.s.cell 0
      have hin := @enters Tryz.prog 161 _ _ Tryz.func161 (by kernel_rfl) rfl
      simp only [List.getElem?_toArray, List.getElem?_cons_zero, List.getElem?_cons_succ] at c1
      go_wp2_with fail
      refine (begin1_c m t wr HX.out HP.out (fun x hx => HS.out x (Nat.le_trans HT.out.size hx)) HM.out HL.out (by have h1 := bP_n q m t p 0; have h2 := HN.out; omega)).mono ?_
      rintro R w1 ⟨rfl, hp1, ht1⟩
      obtain ⟨cj, hcj⟩ : ∃ cj : Nat, cj = bC q m t p 0 := ⟨_, rfl⟩
      have hcd : (bP q m t p 0).code (wrR 0 q (bP q m t p 0).E m t) = cj := hcj.symm
      rw [hcd]
      have HCJ := Lib.hid hcj
      have P1 : Hid (PwC S w1 g dv q ko kc (bP q m t p (0 + 1))) := hp1
      have T1 := Lib.hid (HT.out.trans ht1 (fun _ _ h => h))
      have X1 := Lib.hid (HX.out.tu ht1)
      clear hp1 ht1 hcj hcd c1 hin
      by_cases hz : cj = 0
      · have hne : ((cj : Int) != 0) = false := by rw [hz]; rfl
        have HZ := Lib.hid hz
        clear hz
        go_wp2
        go_roundw
        case rel => exact ⟨0 + 1, by omega, by go_num, fun i hi => (by rcases Nat.lt_or_ge i 0 with h | h; exact HZ0.out i h; obtain rfl : i = 0 := (by omega); rw [← HCJ.out]; exact HZ.out), P1, T1, X1⟩
        case measure => simp [intOf]
      · have hne : ((cj : Int) != 0) = true := by rw [bne_iff_ne]; omega
        go_wp2
        rw [HQ.out]
        have e1 : bErr q m t p = cj := by unfold bErr; rw [← HCJ.out, if_pos hz]
        have e2 : bPow q m t p = bP q m t p 1 := by unfold bPow; rw [← HCJ.out, if_pos hz]
        unfold BPost
        rw [e1, e2]
        exact ⟨rfl, P1.out, T1.out⟩
    · have c1 := HX.out.s.cell 1
      have hin := @enters Tryz.prog 163 _ _ Tryz.func163 (by kernel_rfl) rfl
      simp only [List.getElem?_toArray, List.getElem?_cons_zero, List.getElem?_cons_succ] at c1
      go_wp2_with fail
      refine (begin2_c m t wr HX.out HP.out (fun x hx => HS.out x (Nat.le_trans HT.out.size hx)) HM.out HL.out (by have h1 := bP_n q m t p 1; have h2 := HN.out; omega)).mono ?_
      rintro R w1 ⟨rfl, hp1, ht1⟩
      obtain ⟨cj, hcj⟩ : ∃ cj : Nat, cj = bC q m t p 1 := ⟨_, rfl⟩
      have hcd : (bP q m t p 1).code (wrR 1 q (bP q m t p 1).E m t) = cj := hcj.symm
      rw [hcd]
      have HCJ := Lib.hid hcj
      have P1 : Hid (PwC S w1 g dv q ko kc (bP q m t p (1 + 1))) := hp1
      have T1 := Lib.hid (HT.out.trans ht1 (fun _ _ h => h))
      have X1 := Lib.hid (HX.out.tu ht1)
      clear hp1 ht1 hcj hcd c1 hin
      by_cases hz : cj = 0
      · have hne : ((cj : Int) != 0) = false := by rw [hz]; rfl
        have HZ := Lib.hid hz
        clear hz
        go_wp2
        go_roundw
        case rel => exact ⟨1 + 1, by omega, by go_num, fun i hi => (by rcases Nat.lt_or_ge i 1 with h | h; exact HZ0.out i h; obtain rfl : i = 1 := (by omega); rw [← HCJ.out]; exact HZ.out), P1, T1, X1⟩
        case measure => simp [intOf]
      · have hne : ((cj : Int) != 0) = true := by rw [bne_iff_ne]; omega
        go_wp2
        rw [HQ.out]
        have z0 := HZ0.out 0 (by omega)
        have e1 : bErr q m t p = cj := by unfold bErr; rw [if_neg (fun h => h z0), ← HCJ.out, if_pos hz]
        have e2 : bPow q m t p = bP q m t p 2 := by unfold bPow; rw [if_neg (fun h => h z0), ← HCJ.out, if_pos hz]
        unfold BPost
        rw [e1, e2]
        exact ⟨rfl, P1.out, T1.out⟩
    · have c1 := HX.out.s.cell 2
      have hin := @enters Tryz.prog 164 _ _ Tryz.func164 (by kernel_rfl) rfl
      simp only [List.getElem?_toArray, List.getElem?_cons_zero, List.getElem?_cons_succ] at c1
      go_wp2_with fail
      refine (begin3_c m t wr HX.out HP.out (fun x hx => HS.out x (Nat.le_trans HT.out.size hx)) HM.out HL.out (by have h1 := bP_n q m t p 2; have h2 := HN.out; omega)).mono ?_
      rintro R w1 ⟨rfl, hp1, ht1⟩
      obtain ⟨cj, hcj⟩ : ∃ cj : Nat, cj = bC q m t p 2 := ⟨_, rfl⟩
      have hcd : (bP q m t p 2).code (wrR 2 q (bP q m t p 2).E m t) = cj := hcj.symm
      rw [hcd]
      have HCJ := Lib.hid hcj
      have P1 : Hid (PwC S w1 g dv q ko kc (bP q m t p (2 + 1))) := hp1
      have T1 := Lib.hid (HT.out.trans ht1 (fun _ _ h => h))
      have X1 := Lib.hid (HX.out.tu ht1)
      clear hp1 ht1 hcj hcd c1 hin
      by_cases hz : cj = 0
      · have hne : ((cj : Int) != 0) = false := by rw [hz]; rfl
        have HZ := Lib.hid hz
        clear hz
        go_wp2
        go_roundw
        case rel => exact ⟨2 + 1, by omega, by go_num, fun i hi => (by rcases Nat.lt_or_ge i 2 with h | h; exact HZ0.out i h; obtain rfl : i = 2 := (by omega); rw [← HCJ.out]; exact HZ.out), P1, T1, X1⟩
        case measure => simp [intOf]
      · have hne : ((cj : Int) != 0) = true := by rw [bne_iff_ne]; omega
        go_wp2
        rw [HQ.out]
        have z0 := HZ0.out 0 (by omega)
        have z1 := HZ0.out 1 (by omega)
        have e1 : bErr q m t p = cj := by unfold bErr; rw [if_neg (fun h => h z0), if_neg (fun h => h z1), ← HCJ.out]
        have e2 : bPow q m t p = bP q m t p 3 := by unfold bPow; rw [if_neg (fun h => h z0), if_neg (fun h => h z1)]
        unfold BPost
        rw [e1, e2]
        exact ⟨rfl, P1.out, T1.out⟩
    · go_wp2
      rw [HQ.out]
      have z0 := HZ0.out 0 (by omega)
      have z1 := HZ0.out 1 (by omega)
      have z2 := HZ0.out 2 (by omega)
      have e1 : bErr q m t p = 0 := by unfold bErr; rw [if_neg (fun h => h z0), if_neg (fun h => h z1), z2]
      have e2 : bPow q m t p = bP q m t p 3 := by unfold bPow; rw [if_neg (fun h => h z0), if_neg (fun h => h z1)]
      unfold BPost
      rw [e1, e2]
      exact ⟨rfl, HP.out, HT.out⟩
end Go.Proofs.YtgeaacabpnepmaaGreatDoor
/- Begin, by the program. -/
namespace Go.Proofs.YtgeaacabpnepmaaGreatDoor
open Go.RowKit
set_option linter.unusedVariables false
set_option linter.unusedSimpArgs false
set_option maxRecDepth 20000

theorem after_ks (p : Pw) (E : List Ent) : (p.after E).ks = p.ks := by
  unfold Pw.after
  split
  · rfl
  · split <;> rfl
theorem bP_ks (q : Nat) (m t : List UInt8) (p : Pw) : ∀ j, (bP q m t p j).ks = p.ks
  | 0 => rfl
  | j + 1 => (after_ks _ _).trans (bP_ks q m t p j)
theorem bPow_ks (q : Nat) (m t : List UInt8) (p : Pw) : (bPow q m t p).ks = p.ks := by
  unfold bPow
  split
  · exact bP_ks _ _ _ _ _
  · split <;> exact bP_ks _ _ _ _ _
theorem PwC.back {S S' : Nat → Prop} {w w' : World} {g q kc : Nat} {dv : Value} {ko : Option Addr} {p p' : Pw} (h' : PwC S' w' g dv q ko kc p') (h : PwC S w g dv q ko kc p) (hk : p'.ks = p.ks) (hs : ∀ x, S' x → S x) : PwC S w' g dv q ko kc p' :=
  ⟨h'.blk, h'.ks, h'.kl, fun a e hn => ⟨(h.kf a e (by rw [← hk]; exact hn)).1, (h'.kf a e hn).2⟩, h.ng, h'.dk.mono fun x _ hx => hs x hx⟩
def SBE (p : Pw) (q : Nat) (h : Rc) (l : List Rc) : Int := if wok h l = true then ((bErr q (sgn h.s) (bys (h :: l)) p : Nat) : Int) else 4
def SBP (p : Pw) (q : Nat) (h : Rc) (l : List Rc) : Pw := if wok h l = true then bPow q (sgn h.s) (bys (h :: l)) p else p
def SBPost (S : Nat → Prop) (w : World) (g : Nat) (dv : Value) (q : Nat) (ko : Option Addr) (kc : Nat) (p : Pw) (h : Rc) (l : List Rc) : Ending → World → Prop := fun R w' =>
  R = .returned (.int .i64 (SBE p q h l)) ∧ PwC S w' g dv q ko kc (SBP p q h l) ∧ Tu (fun x => x = g ∨ S x) w w'
theorem ty_st16 : TyO 9 := tyo_of Tryz.underlying9 rfl (by kernel_rfl)
theorem st_st16 (p v : Value) : Instr.storeAt 9 p v = stT 9 p v := rfl
attribute [local go_sem ↓] ld_rec st_rec ld_u64 st_st16
set_option maxHeartbeats 4000000 in
theorem sbegin_c {S : Nat → Prop} {g q : Nat} {dv : Value} {kc : Nat} {ko : Option Addr} {p : Pw} (h : Rc) (l : List Rc) (ao : Option Addr) (cap : Nat) (w : World) (hp : PwC S w g dv q ko kc p) (hS : ∀ x, w.heap.size ≤ x → S x) (hf : h.fit) (hl : ∀ r ∈ l, r.fit) (hn : l.length ≤ 400000) (ha : RcsAt w ao l) (hpn : p.n + 3 < 1000000) (ht : Tab w) :
    Calls Tryz.prog 116 #[.pointer (some ⟨g, 0, none⟩), .agg (rcs h), .slice ao l.length cap] w (SBPost S w g dv q ko kc p h l) := by
  have hmf : ∀ (fn : Fn) (first cap : Array Value) (w : World), (Instr.makeFunc fn first cap).run Tryz.prog w = .ok (.func fn first cap) w := fun _ _ _ _ => rfl
  have HT := Lib.hid ht
  have HF := Lib.hid hf
  have HLF := Lib.hid hl
  have HLN := Lib.hid hn
  have HA := Lib.hid ha
  have HP := Lib.hid hp
  have HS := Lib.hid hS
  have HPN := Lib.hid hpn
  have H0 := Lib.hid (Loc.two w 50 114 #[.pointer (some ⟨g, 0, none⟩)] (rcs h))
  have h0 : str [] = ⟨#[]⟩ := rfl
  obtain ⟨Q, hQ⟩ : ∃ Q : Ending → World → Prop, Q = SBPost S w g dv q ko kc p h l := ⟨_, rfl⟩
  rw [← hQ]
  have HQ := Lib.hid hQ
  clear ht hf hl hn ha hp hS hpn hQ
  by_cases h1 : wok h l = true
  · have HB : Hid (wA h l = bys (h :: l) ∧ wE h l = 0) := ⟨if_pos h1, if_pos h1⟩
    have HO := Lib.hid h1
    clear h1
    go_enter Tryz.func116, Tryz.ntmps116
    go_upto_region 1 with fail
    generalize (w.alloc (.cells #[.pointer (some ⟨g, 0, none⟩)] 50)).alloc (.cells (rcs h) 114) = wa at *
    have l0 := H0.out.ldA ty_rec 1 rfl 0 (vs := rcs h) (by simp [rcs]) (Nat.le_of_ble_eq_true rfl)
    go_wp2_with fail
    refine (whole_c h l ao cap _ HF.out HLF.out HLN.out (HA.out.new H0.out.be) (tab_b HT.out HT.out.1 H0.out.be)).mono ?_
    rintro E w1 ⟨rfl, hb1⟩
    rw [HB.out.1, HB.out.2]
    have h1 := H0.out.to hb1
    obtain ⟨g5, w5, z5, s5, h5, q5⟩ := h1.newO ty_st16 (.string ⟨#[]⟩) (.string (str (bys (h :: l)))) rfl rfl
    have H5 : Hid (Loc w.heap.size w w5 [(w.heap.size, 50, #[.pointer (some ⟨g, 0, none⟩)]), (w.heap.size + 1, 114, rcs h), (g5, 9, #[.string (str (bys (h :: l)))])]) := h5
    clear hb1 l0 H0 h1 h5 q5
    have l5 := H5.out.ldO ty_u64 1 rfl 5 (v := .int .u64 (h.s : Int)) rfl
    go_wp2_with fail
    clear s5 z5 l5
    refine (seg_c h.s _ HF.out.s).mono ?_
    rintro E w6 ⟨rfl, hb6⟩
    have h6 := H5.out.to hb6
    obtain ⟨g7, w7, z7, s7, h7, q7⟩ := h6.newO ty_st16 (.string ⟨#[]⟩) (.string (str (115 :: hex h.s))) rfl rfl
    have H7 : Hid (Loc w.heap.size w w7 [(w.heap.size, 50, #[.pointer (some ⟨g, 0, none⟩)]), (w.heap.size + 1, 114, rcs h), (g5, 9, #[.string (str (bys (h :: l)))]), (g7, 9, #[.string (str (sgn h.s))])]) := h7
    clear hb6 h6 h7 q7 H5
    have HW8 := Lib.hid (below_alloc w7 (.cells #[.func (.func 161) #[] #[.pointer (some ⟨w.heap.size, 0, none⟩), .pointer (some ⟨g7, 0, none⟩)], .func (.func 163) #[] #[.pointer (some ⟨w.heap.size, 0, none⟩), .pointer (some ⟨g7, 0, none⟩), .pointer (some ⟨g5, 0, none⟩)], .func (.func 164) #[] #[.pointer (some ⟨w.heap.size, 0, none⟩), .pointer (some ⟨g7, 0, none⟩)]] 57))
    have HC8 := Lib.hid (Cells.made w7 57 #[.func (.func 161) #[] #[.pointer (some ⟨w.heap.size, 0, none⟩), .pointer (some ⟨g7, 0, none⟩)], .func (.func 163) #[] #[.pointer (some ⟨w.heap.size, 0, none⟩), .pointer (some ⟨g7, 0, none⟩), .pointer (some ⟨g5, 0, none⟩)], .func (.func 164) #[] #[.pointer (some ⟨w.heap.size, 0, none⟩), .pointer (some ⟨g7, 0, none⟩)]])
    go_wp2_with fail
    clear s7 z7
    generalize w7.alloc (.cells #[.func (.func 161) #[] #[.pointer (some ⟨w.heap.size, 0, none⟩), .pointer (some ⟨g7, 0, none⟩)], .func (.func 163) #[] #[.pointer (some ⟨w.heap.size, 0, none⟩), .pointer (some ⟨g7, 0, none⟩), .pointer (some ⟨g5, 0, none⟩)], .func (.func 164) #[] #[.pointer (some ⟨w.heap.size, 0, none⟩), .pointer (some ⟨g7, 0, none⟩)]] 57) = w8 at *
    have hlt := HP.out.lt
    have h8 := H7.out.to HW8.out
    have hsz := h8.be.size
    have hx : Bx (fun x => S x ∧ (x < w.heap.size ∨ w8.heap.size ≤ x)) w8 g w.heap.size g7 g5 w7.heap.size (sgn h.s) (bys (h :: l)) := by
      refine ⟨h8.get 0 rfl, h8.get 3 rfl, h8.get 2 rfl, HC8.out, fun x hx => ?_⟩
      have e0 := (h8.get 0 rfl).lt
      have e3 := (h8.get 3 rfl).lt
      have e2 := (h8.get 2 rfl).lt
      have e8 := HC8.out.lt
      have g3 := h8.ge _ (List.mem_of_getElem? (show _[3]? = some (g7, _, _) from rfl))
      have g2 := h8.ge _ (List.mem_of_getElem? (show _[2]? = some (g5, _, _) from rfl))
      have g8 := H7.out.be.size
      rintro (e | ⟨_, e⟩)
      · rcases hx with rfl | rfl | rfl | rfl <;> omega
      · rcases hx with rfl | rfl | rfl | rfl <;> omega
    refine (inturn_c (sgn h.s) (bys (h :: l)) w8 hx ((HP.out.mono (S' := fun x => S x ∧ (x < w.heap.size ∨ w8.heap.size ≤ x)) fun x hx => ⟨fun h => ⟨h, .inl hx⟩, fun h => h.1⟩).new h8.be) (fun x hx => ⟨HS.out x (Nat.le_trans hsz hx), .inr hx⟩) (by rw [sgn_len]; decide) (by have := bys_len (h :: l); have := HLN.out; simp only [List.length_cons] at *; simp only [maxLen]; omega) HPN.out).mono ?_
    rintro E w9 ⟨rfl, hp9, ht9⟩
    have HP9 := Lib.hid (hp9.back HP.out (bPow_ks _ _ _ _) fun x hx => hx.1)
    have HT9 := Lib.hid ((Tu.new (S := fun x => x = g ∨ S x) h8.be).trans ht9 (fun x _ hx => hx.imp id And.left))
    clear hp9 ht9 hx h8 hsz hlt hmf
    go_wp2
    rw [HQ.out]
    refine ⟨?_, ?_, HT9.out⟩
    · unfold SBE; rw [if_pos HO.out]; rfl
    · unfold SBP; rw [if_pos HO.out]; exact HP9.out
  · have HB : Hid (wA h l = [] ∧ wE h l = 4) := ⟨if_neg h1, if_neg h1⟩
    have HO := Lib.hid h1
    clear h1
    go_enter Tryz.func116, Tryz.ntmps116
    go_upto_region 1 with fail
    generalize (w.alloc (.cells #[.pointer (some ⟨g, 0, none⟩)] 50)).alloc (.cells (rcs h) 114) = wa at *
    have l0 := H0.out.ldA ty_rec 1 rfl 0 (vs := rcs h) (by simp [rcs]) (Nat.le_of_ble_eq_true rfl)
    go_wp2_with fail
    refine (whole_c h l ao cap _ HF.out HLF.out HLN.out (HA.out.new H0.out.be) (tab_b HT.out HT.out.1 H0.out.be)).mono ?_
    rintro E w1 ⟨rfl, hb1⟩
    rw [HB.out.1, HB.out.2]
    have h1 := H0.out.to hb1
    obtain ⟨g5, w5, z5, s5, h5, q5⟩ := h1.newO ty_st16 (.string ⟨#[]⟩) (.string ⟨#[]⟩) rfl rfl
    have H5 := Lib.hid h5.be
    clear hb1 l0 H0 h1 h5 q5
    go_wp2
    rw [HQ.out]
    refine ⟨?_, ?_, Tu.new H5.out⟩
    · unfold SBE; rw [if_neg HO.out]; rfl
    · unfold SBP; rw [if_neg HO.out]; exact HP.out.new H5.out
end Go.Proofs.YtgeaacabpnepmaaGreatDoor
