/- The statement SegmentScans: the Go function returns true. Conditions: the table of four steps lies in its variable. -/
import Derived.Test.YthnelnfefllhpaaDoorBm
import Derived.Test.YthnelnfefllhpaaDoorBj
namespace Go.Proofs.YthnelnfefllhpaaDoor
open Go.RowKit
set_option linter.unusedVariables false
set_option linter.unusedSimpArgs false
set_option maxRecDepth 20000

theorem re_neq_d (a b : Rc) (w : World) : (binOp .neq 33 (.agg (rcs a)) (.agg (rcs b))).run Tryd.prog w = .ok (.bool (!reB a b)) w := by
  rw [run_neq_struct]
  have h := re_eql a b _ (.inr rfl) w
  rw [run_eql_struct] at h
  revert h
  cases (Op.equalIn 10000 33 (.agg (rcs a)) (.agg (rcs b))).run Tryd.prog w with
  | ok x w1 => intro h; simp at h ⊢; exact ⟨by rw [h.1], h.2⟩
  | _ => intro h; simp at h
theorem re_eq_d (a b : Rc) (w : World) : (binOp .eql 33 (.agg (rcs a)) (.agg (rcs b))).run Tryd.prog w = .ok (.bool (reB a b)) w := re_eql a b _ (.inr rfl) w
/-- The document's records of the program's. -/
def TheirPost (w : World) (l : List Rc) (E : Ending) (w' : World) : Prop := ∃ ao cap, E = .returned (.slice ao l.length cap) ∧ RcsAt w' ao l ∧ Below w.heap.size w w'
attribute [local go_sem ↓] ld_rec ld_dec st_rec st_dec bs_dm
attribute [local go_sem] bs_drec
set_option maxHeartbeats 2000000 in
theorem their_c (l : List Rc) (ao : Option Addr) (cap : Nat) (w : World) (h : RcsAt w ao l) (hl : l.length ≤ 1000000) :
    Calls Tryd.prog 10 #[.slice ao l.length cap] w (TheirPost w l) := by
  have H := Lib.hid h
  obtain ⟨Q, hQ⟩ : ∃ Q, Q = TheirPost w l := ⟨_, rfl⟩
  rw [← hQ]
  have HQ := Lib.hid hQ
  clear h hQ
  go_enter Tryd.func10, Tryd.ntmps10
  go_wp2
  go_loopw [3, 4] (fun v i wr => ∃ (k : Nat) (a : Option Addr) (c : Nat), k ≤ l.length ∧ i = .int .i64 (k : Int) ∧ v = .slice a k c ∧ Hid (Rcr 33 w.heap.size wr [] a k c (l.take k)) ∧ Hid (Loc w.heap.size w wr [])) (fun _ i _ => l.length - (intOf i).toNat)
  case atStart => exact ⟨0, none, 0, Nat.zero_le _, rfl, rfl, Rcr.none _ _ _ _ (fun b hb => by cases hb), Loc.nil (Nat.le_refl _)⟩
  case round =>
    obtain ⟨k, a, c, hk, rfl, rfl, HR, HL⟩ := hrel
    by_cases hlt : k < l.length
    · have hstep := Lib.hid (List.take_succ_eq_append_getElem hlt)
      obtain ⟨b, o, rfl, hload⟩ := H.out.one hlt
      generalize l[k]'hlt = r at *
      have l1 := (hload _ HL.out.be).1 _ ty_rec
      have HLT := Lib.hid hlt
      have hsz := HL.out.size
      clear hload
      go_wp2_with (at_builtin; refine wpList_append_rec Tryd.underlying34 info_drec rfl _ _ rfl (by simp [Act.eval]) r (by simp [Act.eval]) HR.out HL.out (Nat.le_refl _) hsz (by simp) (by omega) ?_; intro r7 cap7 w7 hR7 hL7; have HR7 := Lib.hid hR7; have HL7 := Lib.hid hL7; clear hR7 hL7)
      go_roundw
      case rel => exact ⟨k + 1, _, _, HLT.out, by go_num, rfl, by show Rcr _ _ _ _ _ _ _ _; rw [hstep.out]; exact HR7.out, HL7⟩
      case measure => have := HLT.out; simp [intOf]; omega
    · obtain rfl : k = l.length := by omega
      have HE : Hid (l.take l.length = l) := List.take_length
      have HF : Hid (TheirPost w l (.returned (.slice a l.length c)) wr) := by
        have h1 := HR.out
        rw [HE.out] at h1
        exact ⟨a, c, rfl, h1.told.1, HL.out.be⟩
      clear HE
      go_wp2
      rw [HQ.out]
      exact HF.out
theorem dsame_c (l : List Rc) (ao bo : Option Addr) (cap dap : Nat) (w : World) (h : RcsAt w ao l) (h2 : RcsAt w bo l) (hl : l.length ≤ 1000000) :
    Calls Tryd.prog 9 #[.slice ao l.length cap, .slice bo l.length dap] w fun E w' => E = .returned (.bool true) ∧ Below w.heap.size w w' := by
  have H := Lib.hid h
  have H2 := Lib.hid h2
  have hll : ((l.length : Int) != (l.length : Int)) = false := by simp
  clear h h2
  go_enter Tryd.func9, Tryd.ntmps9
  go_wp2
  go_loopw [5] (fun i wr => ∃ k : Nat, k ≤ l.length ∧ i = .int .i64 (k : Int) ∧ Hid (Below w.heap.size w wr)) (fun i _ => l.length - (intOf i).toNat)
  case atStart => exact ⟨0, Nat.zero_le _, rfl, Below.refl _ _⟩
  case round =>
    obtain ⟨k, hk, rfl, HB⟩ := hrel
    by_cases hlt : k < l.length
    · obtain ⟨b, o, rfl, hload⟩ := H.out.one hlt
      obtain ⟨b2, o2, rfl, hload2⟩ := H2.out.one hlt
      generalize l[k]'hlt = r at *
      have HLT := Lib.hid hlt
      have l1 := fun n => (hload (wr.drewN n) (below_drewN HB.out n)).1 _ ty_dec
      have l2 := fun n => (hload2 (wr.drewN n) (below_drewN HB.out n)).1 _ ty_dec
      have hq := re_neq_d r r
      rw [reB_self] at hq
      have i1 : (k : Int) < (l.length : Int) := by omega
      clear hload hload2
      go_upto_region 6 with fail
      go_quiet (fail)
      have HB2 := Lib.hid (below_drewN HB.out nq)
      clear l1 l2 hq
      go_wp2
      go_roundw
      case rel => exact ⟨k + 1, HLT.out, by go_num, HB2⟩
      case measure => have := HLT.out; simp [intOf]; omega
    · obtain rfl : k = l.length := by omega
      go_wp2
      go_ret
      exact ⟨rfl, HB.out⟩
set_option maxHeartbeats 2000000 in
theorem law_scans (s : List UInt8) (n : Nat) (w : World) (hs : s.length ≤ maxLen) (hn : n < 18446744073709551616) (ht : Tab w) :
    Calls Tryd.prog 3 #[.string (str s), .int .u64 (n : Int)] w fun E w' => E = .returned (.bool true) ∧ Below w.heap.size w w' := by
  have hsz := str_size s
  have hml : s.length ≤ 9223372036854775807 := Nat.le_trans hs (by decide)
  have HT := Lib.hid ht
  clear ht hs
  by_cases h6 : 6000 < s.length
  · go_enter Tryd.func3, Tryd.ntmps3
    go_wp2_with fail
    refine (works_c _ HT.out).mono ?_
    rintro E w1 ⟨rfl, hb⟩
    have HB := Lib.hid hb
    clear hb
    go_wp2
    go_ret
    exact ⟨rfl, HB.out⟩
  · have HS := Lib.hid (show s.length ≤ 1048576 by omega)
    have hx := @scn_okg n s
    have HC := Lib.hid (fun w ht => scan_c s n w HS.out hn ht)
    have HD := Lib.hid (fun w => dscan_c s n w HS.out hn)
    have hle : Hid ((scn n sg0 0 s).x.l.length ≤ 1000000) := by
      obtain ⟨l, g1, g2, g3⟩ := scn_told n s.length s sg0 0 (Nat.le_refl _) (okg0 n)
      show _ ≤ _
      have h1 := g3.length_le
      have hlen : ∀ (l : List Rc) (x : Sg), (runS x l).l.length ≤ x.l.length + l.length := by
        intro l
        induction l with
        | nil => intro x; exact Nat.le_refl _
        | cons a l ih =>
          intro x
          rw [runS_cons]
          have h2 := ih (adS x a)
          have h3 : (adS x a).l.length ≤ x.l.length + 1 := by unfold adS; (repeat' split) <;> simp
          simp only [List.length_cons]; omega
      have hbl : ∀ l : List Rc, 6 * l.length ≤ (bys l).length := by
        intro l
        induction l with
        | nil => simp
        | cons a l ih => rw [bys_cons, List.length_append, List.length_cons]; have := byR_lo a; omega
      have h2 := hlen l sg0
      have h3 := hbl l
      rw [g2]
      show (runS sg0 l).l.length ≤ _
      have h4 : sg0.l.length = 0 := rfl
      omega
    generalize scn n sg0 0 s = R at *
    obtain ⟨x, a, e⟩ := R
    clear hx
    go_enter Tryd.func3, Tryd.ntmps3
    go_wp2_with fail
    refine (HC.out w HT.out).mono ?_
    rintro E w1 ⟨ao, cap, rfl, hat, _, _, _, _, hb1⟩
    have B1 := Lib.hid hb1
    have AT1 := Lib.hid hat
    clear hb1 hat
    obtain ⟨g, w2, z1, s1, h1, q1⟩ := (Loc.nil (Nat.le_refl w1.heap.size)).newA ty_rec #[.int .i64 0, .int .u64 0, .int .u8 0, .int .u8 0, .int .u8 0, .int .u64 0, .int .u64 0, .int .u64 0, .int .u8 0] (rcs x.h) rfl rfl (List.all_eq_true.2 (rcs_one x.h))
    have H2 := Lib.hid h1
    have B2 := Lib.hid (B1.out.trans ((below_of_grown q1).mono B1.out.size))
    have AT2 := Lib.hid (AT1.out.new (below_of_grown q1))
    clear h1 q1 AT1 B1
    dsimp only
    go_wp2_with fail
    refine (HD.out w2).mono ?_
    rintro E w3 ⟨bo, dap, rfl, hat, _, _, _, _, hb3⟩
    have B3 := Lib.hid (B2.out.trans (hb3.mono B2.out.size))
    have H3 := Lib.hid (H2.out.to hb3)
    have AT3 := Lib.hid (AT2.out.new hb3)
    have DT3 := Lib.hid hat
    clear hb3 hat H2 B2 AT2 s1 z1
    obtain ⟨g2, w4, z4, s4, h4, q4⟩ := H3.out.newA ty_dec #[.int .i64 0, .int .u64 0, .int .u8 0, .int .u8 0, .int .u8 0, .int .u64 0, .int .u64 0, .int .u64 0, .int .u8 0] (rcs x.h) rfl rfl (List.all_eq_true.2 (rcs_one x.h))
    have B4 := Lib.hid (B3.out.trans ((below_of_grown q4).mono B3.out.size))
    have AT4 := Lib.hid (AT3.out.new (below_of_grown q4))
    have DT4 := Lib.hid (DT3.out.new (below_of_grown q4))
    have l1 := h4.ldA ty_rec 0 rfl 0 (vs := rcs x.h) (by simp [rcs]) (Nat.le_of_ble_eq_true rfl)
    have l2 := h4.ldA ty_dec 1 rfl 0 (vs := rcs x.h) (by simp [rcs]) (Nat.le_of_ble_eq_true rfl)
    clear h4 q4 AT3 DT3 B3 H3
    have hq := re_eq_d x.h x.h
    have hqq := reB_self x.h
    have haa : ((a : Int) == (a : Int)) = true := by simp
    have hee : (e == e) = true := by simp
    dsimp only
    go_wp2_with fail
    refine (their_c x.l ao cap _ AT4.out hle.out).mono ?_
    rintro E w5 ⟨co, cap5, rfl, hat, hb5⟩
    have B5 := Lib.hid (B4.out.trans (hb5.mono B4.out.size))
    have DT5 := Lib.hid (DT4.out.new hb5)
    have AT5 := Lib.hid hat
    clear hb5 hat DT4 AT4 B4 l1 l2 s4 z4
    go_wp2_with fail
    refine (dsame_c x.l co bo cap5 dap _ AT5.out DT5.out hle.out).mono ?_
    rintro E w6 ⟨rfl, hb6⟩
    have B6 := Lib.hid (B5.out.trans (hb6.mono B5.out.size))
    clear hb6 B5
    go_wp2_with fail
    refine (works_c _ (tab_b HT.out HT.out.1 B6.out)).mono ?_
    rintro E w7 ⟨rfl, hb7⟩
    have B7 := Lib.hid (B6.out.trans (hb7.mono B6.out.size))
    clear hb7 B6
    go_wp2
    go_ret
    exact ⟨rfl, B7.out⟩
end Go.Proofs.YthnelnfefllhpaaDoor
