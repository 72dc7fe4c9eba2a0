/- The statement SegmentTorn: the Go function returns true. Conditions: the table of four steps lies in its variable. -/
import Derived.Test.YthnelnfefllhpaaGreatDoorCz
import Derived.Test.YthnelnfefllhpaaGreatDoorBt
import Derived.Test.YthnelnfefllhpaaGreatDoorBu
import Derived.Test.YthnelnfefllhpaaGreatDoorPz
namespace Go.Proofs.YthnelnfefllhpaaGreatDoor
open Go.RowKit
set_option linter.unusedVariables false
set_option linter.unusedSimpArgs false
set_option maxRecDepth 20000

theorem goes_all {l : List Rc} (h : Goes 1 sg0 l) (h0 : 0 < l.length) : (∀ r ∈ l, r.fit) ∧ (l[0]'h0).s = 1 ∧ wok (l[0]'h0) [] = true ∧ l[0]'h0 ≠ rz ∧ ∀ i (hi : i < l.length), 0 < i → okB (l[i]'hi) false = true := by
  have hm := mays_of h
  refine ⟨fun r hr => (hm r hr).1, ?_, ?_, ?_, fun i hi hp => ?_⟩
  · cases l with
    | nil => simp at h0
    | cons r l =>
      obtain ⟨k3, ha⟩ := goes_head h
      obtain ⟨h1, h2, h3, _⟩ := h
      have := okg_ad (okg0 1) h1 h2 h3
      rw [ha] at this
      exact (this.hb rfl).2.2.1
  · cases l with
    | nil => simp at h0
    | cons r l =>
      obtain ⟨k3, ha⟩ := goes_head h
      have : okB r true = true := okB_iff.2 ⟨h.2.1, by simpa using k3⟩
      show wok r [] = true
      unfold wok
      rw [this]; rfl
  · cases l with
    | nil => simp at h0
    | cons r l =>
      obtain ⟨k3, ha⟩ := goes_head h
      intro e
      have e : r = rz := e
      rw [e] at k3
      exact absurd k3 (by decide)
  · obtain ⟨h1, h2, h3⟩ := goes_at i hi h
    have hb : (runS sg0 (l.take i)).b = true := runS_b (goes_take i h) (by
      intro e
      have := congrArg List.length e
      rw [List.length_take, List.length_nil] at this
      omega)
    refine okB_iff.2 ⟨h2, ?_⟩
    rw [decide_eq_false_iff_not]
    intro k3
    unfold tkS at h3
    rw [if_pos k3, if_pos (.inl hb)] at h3
    cases h3
theorem RcsAt.lt {w : World} {ao : Option Addr} {l : List Rc} (h : RcsAt w ao l) (h0 : 0 < l.length) : ∀ a, ao = some a → a.block < w.heap.size := fun a ha => by
  obtain ⟨b, o, e, hc⟩ := h 0 h0
  rw [ha] at e
  cases e
  exact World.block_lt_of_cell? w _ (hc 0 (.int .i64 (l[0]'h0).k) rfl)
theorem ty_il16 : TyO 27 := tyo_of Tryz.underlying27 rfl (by kernel_rfl)
theorem ld_il16 (v : Value) : Instr.loadAt 27 v = ldT 27 v := rfl
theorem bPow_n (q : Nat) (m t : List UInt8) (p : Pw) : (bPow q m t p).n ≤ p.n + 3 := by
  unfold bPow
  have h1 := bP_n q m t p 1
  have h2 := bP_n q m t p 2
  have h3 := bP_n q m t p 3
  split
  · omega
  · split <;> omega
theorem SBP_n (p : Pw) (q : Nat) (h : Rc) (l : List Rc) : (SBP p q h l).n ≤ p.n + 3 := by
  unfold SBP
  split
  · exact bPow_n _ _ _ _
  · omega
theorem SAP_n (p : Pw) (q n : Nat) (r : Rc) : (SAP p q n r).n ≤ p.n + 1 := by
  unfold SAP
  split
  · exact after_n _ _
  · omega
attribute [local go_sem ↓] ld_rec st_rec ld_play ld_u16s ld_u8 ld_il16
set_option maxHeartbeats 16000000 in
theorem law_torn (pl fi : Nat) (L : List Nat) (a : Option Addr) (acap a0 a1 : Nat) (ko : Option Addr) (ks : List Int) (kc : Nat) (w : World) (hp : pl < 256) (hfi : fi < 18446744073709551616) (hU : U16s w a L) (ha0 : a0 < 256) (ha1 : a1 < 256) (hK : Ints w ko ks) (hKl : ks.length ≤ maxLen) (ht : Tab w) :
    Calls Tryz.prog 3 #[.agg #[.int .u8 (pl : Int), .int .u64 (fi : Int), .slice a L.length acap], .agg #[.int .u8 (a0 : Int), .int .u8 (a1 : Int)], .agg #[.slice ko ks.length kc]] w fun E w' => E = .returned (.bool true) ∧ Below w.heap.size w w' := by
  have HU := Lib.hid hU
  have HT := Lib.hid ht
  have HK := Lib.hid hK
  have H0 := Lib.hid (Loc.three w 25 26 29 #[.int .u8 (pl : Int), .int .u64 (fi : Int), .slice a L.length acap] #[.int .u8 (a0 : Int), .int .u8 (a1 : Int)] #[.slice ko ks.length kc])
  have HPF := Lib.hid (And.intro hp hfi)
  have HW : Hid (∀ w1, Below w.heap.size w w1 → Calls Tryz.prog 5 #[] w1 fun E w' => E = .returned (.bool true) ∧ Below w1.heap.size w1 w') := fun w1 hb => works_c w1 (tab_b HT.out HT.out.1 hb)
  have hml : ks.length ≤ 9223372036854775807 := Nat.le_trans hKl (by decide)
  clear hU ht hp hfi hK hKl
  have hcase : 100 < L.length ∨ (¬ 100 < L.length ∧ 20 < ks.length) ∨ (¬ 100 < L.length ∧ ¬ 20 < ks.length) := by omega
  rcases hcase with h1 | ⟨h1, h2⟩ | ⟨h1, h2⟩
  · have i1 : (100 : Int) < (L.length : Int) := by omega
    clear h1
    go_enter Tryz.func3, Tryz.ntmps3
    go_upto_region 1 with fail
    generalize ((w.alloc (.cells #[.int .u8 (pl : Int), .int .u64 (fi : Int), .slice a L.length acap] 25)).alloc (.cells #[.int .u8 (a0 : Int), .int .u8 (a1 : Int)] 26)).alloc (.cells #[.slice ko ks.length kc] 29) = wa at *
    have lS := H0.out.ldO ty_u16s 0 rfl 2 (v := .slice a L.length acap) rfl
    go_wp2_with fail
    refine (HW.out _ H0.out.be).mono ?_
    rintro E w1 ⟨rfl, hb⟩
    have HB := Lib.hid (H0.out.be.trans (hb.mono H0.out.size))
    clear hb
    go_wp2
    go_ret
    exact ⟨rfl, HB.out⟩
  · have i1 : ¬ (100 : Int) < (L.length : Int) := by omega
    have i2 : (20 : Int) < (ks.length : Int) := by omega
    clear h1 h2
    go_enter Tryz.func3, Tryz.ntmps3
    go_upto_region 1 with fail
    generalize ((w.alloc (.cells #[.int .u8 (pl : Int), .int .u64 (fi : Int), .slice a L.length acap] 25)).alloc (.cells #[.int .u8 (a0 : Int), .int .u8 (a1 : Int)] 26)).alloc (.cells #[.slice ko ks.length kc] 29) = wa at *
    have lS := H0.out.ldO ty_u16s 0 rfl 2 (v := .slice a L.length acap) rfl
    have lK := H0.out.ldO ty_il16 2 rfl 0 (v := .slice ko ks.length kc) rfl
    go_wp2_with fail
    refine (HW.out _ H0.out.be).mono ?_
    rintro E w1 ⟨rfl, hb⟩
    have HB := Lib.hid (H0.out.be.trans (hb.mono H0.out.size))
    clear hb
    go_wp2
    go_ret
    exact ⟨rfl, HB.out⟩
  · have i1 : ¬ (100 : Int) < (L.length : Int) := by omega
    have i2 : ¬ (20 : Int) < (ks.length : Int) := by omega
    have HL1 := Lib.hid h1
    have HK1 := Lib.hid h2
    clear h1 h2
    go_enter Tryz.func3, Tryz.ntmps3
    go_upto_region 1 with fail
    generalize ((w.alloc (.cells #[.int .u8 (pl : Int), .int .u64 (fi : Int), .slice a L.length acap] 25)).alloc (.cells #[.int .u8 (a0 : Int), .int .u8 (a1 : Int)] 26)).alloc (.cells #[.slice ko ks.length kc] 29) = wa at *
    have lS := H0.out.ldO ty_u16s 0 rfl 2 (v := .slice a L.length acap) rfl
    have lK := H0.out.ldO ty_il16 2 rfl 0 (v := .slice ko ks.length kc) rfl
    have lP := H0.out.ldA ty_play 0 rfl 0 (vs := #[.int .u8 (pl : Int), .int .u64 (fi : Int), .slice a L.length acap]) (by simp) (Nat.le_of_ble_eq_true rfl)
    go_wp2_with fail
    refine (made_c pl fi L a acap _ HPF.out.1 HPF.out.2 (HU.out.new H0.out.be) (by have := HL1.out; omega)).mono ?_
    rintro E w1 ⟨l, la, lc, rfl, hat, hgo, h0, hln, hb⟩
    have hl2 : l.length ≤ 201 := by have := HL1.out; omega
    have H1 := Lib.hid (H0.out.to hb)
    have AT := Lib.hid hat
    have GO := Lib.hid hgo
    have GA := Lib.hid (goes_all hgo h0)
    have LT := Lib.hid (hat.lt h0)
    have HBL : Hid ((bys l).length ≤ 6432) := by show _ ≤ _; have := bys_len l; omega
    clear hat hgo hb lS lP lK i1 HL1 H0 HPF hln
    go_wp2_with fail
    refine (new_c 1048576 _).mono ?_
    rintro E w2 ⟨hb2, ⟨_, _, dv, rfl, hd⟩ | ⟨h, _⟩⟩
    rotate_left
    · exact absurd h (by omega)
    obtain ⟨gd, rfl⟩ := hd.ptr1
    have HD := Lib.hid hd
    have HB2 := Lib.hid hb2
    have H2 := Lib.hid (H1.out.to hb2)
    clear hb2 hd
    have lA := H2.out.ldO ty_u8 1 rfl 1 (v := .int .u8 (a1 : Int)) rfl
    have lK := H2.out.ldO ty_il16 2 rfl 0 (v := .slice ko ks.length kc) rfl
    obtain ⟨fu, hfu⟩ : ∃ fu : Int, (a1 : Int) % 128 = fu := ⟨_, rfl⟩
    have hfu2 : 0 ≤ fu ∧ fu < 128 := by omega
    go_wp2_with fail
    refine (pnew_c fu ko ks kc w2 HD.out (HK.out.tu (.new (S := fun _ => False) (H2.out.be.mono (Nat.le_refl _))) (fun _ _ h => h)) (by have := HK1.out; omega)).mono ?_
    rintro E w3 ⟨g, kno, knc, rfl, hgw, hkw, hpw, hb3⟩
    have HB3 := Lib.hid hb3
    have hgw2 := hgw
    have H3 := Lib.hid (H2.out.to hb3)
    have HP3 : Hid (PwC (fun x => (w1.heap.size ≤ x ∧ x < w2.heap.size) ∨ w3.heap.size ≤ x) w3 g (.pointer (some ⟨gd, 0, none⟩)) 1048576 kno knc ⟨fu, ks, 0, false, []⟩) := hpw.mono (fun x hx => ⟨.inl, fun h => h.resolve_right (by omega)⟩)
    have HB13 := Lib.hid (HB2.out.trans (hb3.mono HB2.out.size))
    obtain ⟨S2, hS2⟩ : ∃ S2 : Nat → Prop, S2 = fun x => (w1.heap.size ≤ x ∧ x < w2.heap.size) ∨ w3.heap.size ≤ x := ⟨_, rfl⟩
    rw [← hS2] at HP3
    have hz13 := HB13.out.size
    have hz12 := HB2.out.size
    have HNEW : Hid (∀ x, w3.heap.size ≤ x → S2 x) := fun x hx => by rw [hS2]; exact .inr hx
    have HLOW : Hid (∀ wa wb, w3.heap.size ≤ wa.heap.size → Tu (fun x => x = g ∨ S2 x) wa wb → Below w1.heap.size wa wb) := fun wa wb hz ht => ht.below (fun x hx => by rw [hS2]; rintro (e | ⟨e, _⟩ | e) <;> omega) (by omega)
    have HZ13 := Lib.hid hz13
    clear hb3 hgw hkw hpw lA lK hfu HD HB2 H2 HK hS2 hz13 hz12 hfu2
    obtain ⟨b, o, rfl, ld0⟩ := AT.out.one h0
    have l0 := (ld0 w3 HB13.out).1 _ ty_rec
    simp only [Nat.zero_mul, Nat.add_zero] at l0
    clear ld0
    have T3 := Lib.hid (tab_b HT.out HT.out.1 H3.out.be)
    go_wp2_with fail
    refine (sbegin_c (S := S2) (l[0]'h0) [] none 0 w3 HP3.out (fun x hx => HNEW.out x hx) (GA.out.1 _ (List.getElem_mem h0)) (fun r hr => by cases hr) (by simp) (RcsAt.nil _ _) (by simp) T3.out).mono ?_
    rintro E w4 ⟨rfl, hp4, ht4⟩
    have TB := t_begin (l := l) fu ks (q := 1048576) h0 (by decide) (by have := HBL.out; omega) GA.out.2.2.1 GA.out.2.1
    have hn4 := SBP_n ⟨fu, ks, 0, false, []⟩ 1048576 (l[0]'h0) []
    have HB4 := Lib.hid (HB13.out.trans ((HLOW.out w3 w4 (Nat.le_refl _) ht4).mono (Nat.le_refl _)))
    have HZ4 := Lib.hid ht4.size
    generalize SBE ⟨fu, ks, 0, false, []⟩ 1048576 (l[0]'h0) [] = ce at TB ⊢
    generalize SBP ⟨fu, ks, 0, false, []⟩ 1048576 (l[0]'h0) [] = p4 at TB hp4 hn4
    have HN4 : Hid (p4.n ≤ 3) := by show _ ≤ _; simpa using hn4
    have HP4 := Lib.hid hp4
    clear l0 hp4 ht4 hn4 HP3 T3
    rcases TB with ⟨c4, k4⟩ | ⟨c4, k4⟩
    · have g4 : (ce == 0) = true := by rw [c4]; rfl
      have K4 := Lib.hid k4
      clear c4 k4
      go_wp2_with fail
      refine (seg_c 1 _ (by decide)).mono ?_
      rintro E w5 ⟨rfl, hb5⟩
      have HB5 := Lib.hid (HB4.out.trans (hb5.mono HB4.out.size))
      have HZ5 := Lib.hid (Nat.le_trans HZ4.out hb5.size)
      have HP5 := Lib.hid (HP4.out.new hb5)
      clear hb5 g4 HP4 HB4 HZ4
      go_wp2
      go_loopw [10, 11, 13] (fun sv dv iv wr => ∃ (sure done i : Nat) (p : Pw), 1 ≤ i ∧ i ≤ l.length ∧ sure ≤ done ∧ done ≤ i ∧ sv = .int .i64 (sure : Int) ∧ dv = .int .i64 (done : Int) ∧ iv = .int .i64 (i : Int) ∧ Hid (TOn l p sure done ∨ TOff l p sure done) ∧ Hid (PwC S2 wr g (.pointer (some ⟨gd, 0, none⟩)) 1048576 kno knc p) ∧ Hid (Below w1.heap.size w1 wr) ∧ Hid (w3.heap.size ≤ wr.heap.size) ∧ Hid (p.n ≤ 3 + 2 * i)) (fun _ _ iv _ => l.length - (intOf iv).toNat)
      case atStart => exact ⟨1, 1, 1, p4, Nat.le_refl _, h0, Nat.le_refl _, by omega, rfl, rfl, rfl, (.inl K4.out), HP5.out, HB5.out, HZ5.out, by have := HN4.out; show _ ≤ _; omega⟩
      case round =>
        obtain ⟨sure, done, i, p, hi1, hil, hsd, hdi, rfl, rfl, rfl, HTI, HP, HB, HZ, HN⟩ := hrel
        clear HP5 HB5 HZ5 HN4 K4
        have hx : (i < l.length ∧ done = i) ∨ ¬ i < l.length ∨ (i < l.length ∧ done ≠ i) := by omega
        rcases hx with ⟨hlt, hd⟩ | hx
        · subst hd
          obtain ⟨b', o', ea, ldi⟩ := AT.out.one hlt
          cases ea
          have l1 := (ldi wr HB.out).1 _ ty_rec
          have TA := t_append (q := 1048576) hlt (by decide) (by have := HBL.out; omega) (GA.out.2.2.2.2 _ hlt hi1) hsd HTI.out
          have hf := GA.out.1 _ (List.getElem_mem hlt)
          have hn6 := SAP_n p 1048576 1 (l[done]'hlt)
          have HLT := Lib.hid hlt
          have hili : (done : Int) < (l.length : Int) := by omega
          clear ldi
          go_wp2_with fail
          refine (sappend_c (S := S2) 1 (l[done]'hlt) wr HP.out (fun x hx => HNEW.out x (Nat.le_trans HZ.out hx)) (by decide) hf (by have := HN.out; omega) (tab_b HT.out HT.out.1 (H1.out.to HB.out).be)).mono ?_
          rintro E w6 ⟨rfl, hp6, ht6⟩
          have HB6 := Lib.hid (HB.out.trans (HLOW.out _ w6 HZ.out ht6))
          have HZ6 := Lib.hid (Nat.le_trans HZ.out ht6.size)
          generalize SAE p 1048576 1 (l[done]'hlt) = ce at TA ⊢
          generalize SAP p 1048576 1 (l[done]'hlt) = p6 at TA hp6 hn6
          have HP6 := Lib.hid hp6
          have HN6 : Hid (p6.n ≤ 3 + 2 * done + 1) := by show _ ≤ _; have := HN.out; omega
          clear l1 hf hp6 ht6 hn6 HP HB HZ HN
          have lA := (H1.out.to HB6.out).ldO ty_u8 1 rfl 0 (v := .int .u8 (a0 : Int)) rfl
          have hi9 : done ≤ 201 := by omega
          rcases TA with ⟨c6, k6⟩ | ⟨c6, k6⟩
          · have g6 : (ce == 0) = true := by rw [c6]; rfl
            have K6 := Lib.hid k6
            clear c6 k6 HTI
            by_cases h17 : done = a0
            · have g7 : ((done : Int) == (a0 : Int)) = true := by rw [h17]; simp
              have TS := t_sync (q := 1048576) (t := []) (show sure ≤ (done + 1) by omega) (.inl K6.out)
              clear h17
              go_wp2_with fail
              refine (psync_c (S := S2) (sgn 1) [] w6 HP6.out (fun x hx => HNEW.out x (Nat.le_trans HZ6.out hx)) (by rw [sgn_len]; decide) (by simp) (by have := HN6.out; omega)).mono ?_
              rintro E w7 ⟨rfl, hp7, ht7⟩
              have HB7 := Lib.hid (HB6.out.trans (HLOW.out _ w7 HZ6.out ht7))
              have HZ7 := Lib.hid (Nat.le_trans HZ6.out ht7.size)
              obtain ⟨cj, hcj⟩ : ∃ cj : Nat, cj = p6.wrc 2 1048576 (sgn 1) [] := ⟨_, rfl⟩
              have hcd : p6.code (wrR 2 1048576 p6.E (sgn 1) []) = cj := hcj.symm
              rw [hcd]
              rw [← hcj] at TS
              have HN7 : Hid ((p6.wr 2 1048576 (sgn 1) []).n ≤ 3 + 2 * (done + 1)) := by show (p6.after _).n ≤ _; have := HN6.out; have := after_n p6 (wrE 2 1048576 p6.E (sgn 1) []); omega
              have HP7 : Hid (PwC S2 w7 g (.pointer (some ⟨gd, 0, none⟩)) 1048576 kno knc (p6.wr 2 1048576 (sgn 1) [])) := hp7
              clear hp7 ht7 hcj hcd lA
              rcases TS with ⟨c7, k7⟩ | ⟨c7, k7⟩
              · have g8 : ((cj : Int) == 0) = true := by rw [c7]; rfl
                have K7 := Lib.hid k7
                clear c7 k7
                go_wp2
                go_roundw
                case rel => exact ⟨(done + 1), (done + 1), done + 1, _, by omega, HLT.out, by omega, by omega, by first | rfl | go_num, by first | rfl | go_num, by go_num, .inl K7.out, HP7.out, HB7.out, HZ7.out, HN7.out⟩
                case measure => have := HLT.out; simp [intOf]; omega
              · have g8 : ((cj : Int) == 0) = false := beq_eq_false_iff_ne.2 (by omega)
                have K7 := Lib.hid k7
                clear c7 k7
                go_wp2
                go_roundw
                case rel => exact ⟨sure, (done + 1), done + 1, _, by omega, HLT.out, by omega, by omega, rfl, by first | rfl | go_num, by go_num, .inr K7.out, HP7.out, HB7.out, HZ7.out, HN7.out⟩
                case measure => have := HLT.out; simp [intOf]; omega
            · have g7 : ((done : Int) == (a0 : Int)) = false := beq_eq_false_iff_ne.2 (by omega)
              clear h17
              go_wp2
              go_roundw
              case rel => exact ⟨sure, (done + 1), done + 1, _, by omega, HLT.out, by omega, by omega, rfl, by first | rfl | go_num, by go_num, (.inl K6.out), HP6.out, HB6.out, HZ6.out, by have := HN6.out; show _ ≤ _; omega⟩
              case measure => have := HLT.out; simp [intOf]; omega
          · have g6 : (ce == 0) = false := beq_eq_false_iff_ne.2 c6
            have K6 := Lib.hid k6
            clear c6 k6 HTI
            by_cases h17 : done = a0
            · have g7 : ((done : Int) == (a0 : Int)) = true := by rw [h17]; simp
              have TS := t_sync (q := 1048576) (t := []) (show sure ≤ done by omega) (.inr K6.out)
              clear h17
              go_wp2_with fail
              refine (psync_c (S := S2) (sgn 1) [] w6 HP6.out (fun x hx => HNEW.out x (Nat.le_trans HZ6.out hx)) (by rw [sgn_len]; decide) (by simp) (by have := HN6.out; omega)).mono ?_
              rintro E w7 ⟨rfl, hp7, ht7⟩
              have HB7 := Lib.hid (HB6.out.trans (HLOW.out _ w7 HZ6.out ht7))
              have HZ7 := Lib.hid (Nat.le_trans HZ6.out ht7.size)
              obtain ⟨cj, hcj⟩ : ∃ cj : Nat, cj = p6.wrc 2 1048576 (sgn 1) [] := ⟨_, rfl⟩
              have hcd : p6.code (wrR 2 1048576 p6.E (sgn 1) []) = cj := hcj.symm
              rw [hcd]
              rw [← hcj] at TS
              have HN7 : Hid ((p6.wr 2 1048576 (sgn 1) []).n ≤ 3 + 2 * (done + 1)) := by show (p6.after _).n ≤ _; have := HN6.out; have := after_n p6 (wrE 2 1048576 p6.E (sgn 1) []); omega
              have HP7 : Hid (PwC S2 w7 g (.pointer (some ⟨gd, 0, none⟩)) 1048576 kno knc (p6.wr 2 1048576 (sgn 1) [])) := hp7
              clear hp7 ht7 hcj hcd lA
              rcases TS with ⟨c7, k7⟩ | ⟨c7, k7⟩
              · have g8 : ((cj : Int) == 0) = true := by rw [c7]; rfl
                have K7 := Lib.hid k7
                clear c7 k7
                go_wp2
                go_roundw
                case rel => exact ⟨done, done, done + 1, _, by omega, HLT.out, by omega, by omega, by first | rfl | go_num, by first | rfl | go_num, by go_num, .inl K7.out, HP7.out, HB7.out, HZ7.out, HN7.out⟩
                case measure => have := HLT.out; simp [intOf]; omega
              · have g8 : ((cj : Int) == 0) = false := beq_eq_false_iff_ne.2 (by omega)
                have K7 := Lib.hid k7
                clear c7 k7
                go_wp2
                go_roundw
                case rel => exact ⟨sure, done, done + 1, _, by omega, HLT.out, by omega, by omega, rfl, by first | rfl | go_num, by go_num, .inr K7.out, HP7.out, HB7.out, HZ7.out, HN7.out⟩
                case measure => have := HLT.out; simp [intOf]; omega
            · have g7 : ((done : Int) == (a0 : Int)) = false := beq_eq_false_iff_ne.2 (by omega)
              clear h17
              go_wp2
              go_roundw
              case rel => exact ⟨sure, done, done + 1, _, by omega, HLT.out, by omega, by omega, rfl, by first | rfl | go_num, by go_num, (.inr K6.out), HP6.out, HB6.out, HZ6.out, by have := HN6.out; show _ ≤ _; omega⟩
              case measure => have := HLT.out; simp [intOf]; omega
        · obtain ⟨k, hk1, hk2, hk3, hk4⟩ := t_read (t_blow HTI.out)
          have hdl : sure ≤ l.length := by omega
          have hwh := t_whole hk2 hk3 hdl
          obtain ⟨wl, ws1, ws2⟩ := whole_spec l k
          obtain ⟨m, hm⟩ : ∃ m, whole l k = m := ⟨_, rfl⟩
          rw [hm] at hwh wl ws1 ws2
          obtain ⟨x, e, hs, hxl, hxg, hv4⟩ := begin_all GO.out h0 wl ws1 ws2 hk4
          obtain ⟨hh, hhe⟩ : ∃ hh : Rc, x.h = hh := ⟨_, rfl⟩
          obtain ⟨M, hM⟩ : ∃ M, x.l.length = M := ⟨_, rfl⟩
          rw [hhe] at hv4
          rw [hM] at hxl
          have HV : Hid ((m = 0 ∧ hh = rz ∧ e = 10) ∨ (0 < m ∧ hh = l[0]'h0 ∧ e = 0) ∨ (0 < m ∧ hh = l[0]'h0 ∧ e = 10)) := by
            show _ ∨ _
            rcases hv4 with h | h | h | h
            · exact .inl ⟨h.1, h.2.1, h.2.2.1⟩
            · exact .inl ⟨h.1, h.2.1, h.2.2.1⟩
            · exact .inr (.inl ⟨h.1, h.2.1, h.2.2.1⟩)
            · exact .inr (.inr ⟨h.1, h.2.1, h.2.2.1⟩)
          have HXG := Lib.hid hxg
          have HM := Lib.hid hM
          have HHE := Lib.hid hhe
          have HSC := Lib.hid hs
          have HRD := Lib.hid hk1
          have hkl : ((bys l).take k).length = k := by rw [List.length_take]; omega
          have HKL := Lib.hid hkl
          have hsz := str_size ((bys l).take k)
          rw [hkl] at hsz
          have hks : k ≤ 6432 := by have := HBL.out; omega
          have k4 : ¬ ((k : Int) < (((bys (l.take m)).length : Nat) : Int)) := by omega
          have k4b : decide ((k : Int) < (((bys (l.take m)).length : Nat) : Int)) = false := decide_eq_false k4
          have htl : (bys (l.take m)).length ≤ 6432 := by omega
          have hm2 : M ≤ 201 := by omega
          have HXL : Hid (M = m - 1) := hxl
          have HWH := Lib.hid hwh
          have HWL := Lib.hid wl
          clear hk1 hk2 hk3 hk4 hm hs hxg hv4 hhe hM ws1 ws2 hkl hxl hwh wl hdl
          generalize (bys (l.take m)).length = tl at *
          generalize (bys l).take k = T at *
          rcases hx with h1 | ⟨h1, h2⟩
          · have j1 : ¬ (i : Int) < (l.length : Int) := by omega
            clear h1
            go_wp2_with fail
            refine (blow_c (S := S2) wr HP.out).mono ?_
            rintro E w6 ⟨rfl, hp6, ht6⟩
            have HB6 := Lib.hid (HB.out.trans (HLOW.out _ w6 HZ.out ht6))
            have HP6 := Lib.hid hp6
            clear hp6 ht6
            go_wp2_with fail
            refine (read_c (S := S2) (sgn 1) w6 HP6.out.dk (by rw [sgn_len]; decide)).mono ?_
            rintro E w7 ⟨rfl, hb7⟩
            rw [HRD.out]
            have HB7 := Lib.hid (HB6.out.trans (hb7.mono HB6.out.size))
            have HC := scan_c T 1 w7 (by rw [HKL.out]; omega) (by decide) (tab_b HT.out HT.out.1 (H1.out.to HB7.out).be)
            rw [HSC.out] at HC
            have HC := Lib.hid HC
            clear hb7
            go_wp2_with fail
            refine HC.out.mono ?_
            rintro E w8 ⟨ao4, cap4, rfl, hat4, _, _, _, _, hb8⟩
            dsimp only at hat4 ⊢
            have AT4 := Lib.hid hat4
            rw [HHE.out, HM.out]
            have HB8 := Lib.hid (HB7.out.trans (hb8.mono HB7.out.size))
            clear hat4 hb8 HC HSC HB6 HP6 HP HRD
            have hxl := HXL.out
            have hwh := HWH.out
            have wl := HWL.out
            rcases HV.out with hv | hv | hv
            · obtain ⟨rfl, rfl, rfl⟩ := hv
              obtain rfl : M = 0 := by omega
              obtain rfl : sure = 0 := by omega
              have hz : ∀ w, (binOp .neq 43 (.agg (rcs rz)) (.agg #[.int .i64 0, .int .u64 0, .int .u8 0, .int .u8 0, .int .u8 0, .int .u64 0, .int .u64 0, .int .u64 0, .int .u8 0])).run Tryz.prog w = .ok (.bool false) w := fun w => by
                have := re_neq rz rz w
                rwa [reB_self] at this
              have k2 : ¬ ((done : Int) + 1 < 0) := by omega
              have k2b : decide ((done : Int) + 1 < 0) = false := decide_eq_false k2
              have k3 : ¬ ((l.length : Int) < 0) := by omega
              have k3b : decide ((l.length : Int) < 0) = false := decide_eq_false k3
              clear hxl hwh wl k2 k3
              obtain ⟨g5, w9, z9, s9, h9, q9⟩ := (Loc.nil (Nat.le_refl w8.heap.size)).newA ty_rec #[.int .i64 0, .int .u64 0, .int .u8 0, .int .u8 0, .int .u8 0, .int .u64 0, .int .u64 0, .int .u64 0, .int .u8 0] (rcs rz) rfl rfl (List.all_eq_true.2 (rcs_one _))
              have H9 := Lib.hid (h9.get 0 rfl)
              have HB9 := Lib.hid (below_of_grown q9)
              have lh := run_ldA (n := 9) ty_rec H9.out 0 (Nat.le_of_ble_eq_true rfl)
              have e0 : (((rcs rz).toList.drop 0).take 9).toArray = rcs rz := by simp [rcs]
              rw [e0] at lh
              clear h9 q9 e0
              have HBa := Lib.hid (HB8.out.trans ((HB9.out).mono HB8.out.size))
              go_wp2
              clear lh s9 z9 hz
              go_loopw [21] (fun jv wz => ∃ j : Nat, j ≤ 0 ∧ jv = .int .i64 (j : Int) ∧ Hid (Below w9.heap.size w9 wz)) (fun jv _ => 0 - (intOf jv).toNat)
              case atStart => exact ⟨0, Nat.zero_le _, rfl, Below.refl _ _⟩
              case round =>
                obtain ⟨j, hj, rfl, HJ⟩ := hrel
                have HBg := Lib.hid (HB9.out.trans (HJ.out.mono HB9.out.size))
                have HBh := Lib.hid (HBa.out.trans (HJ.out.mono HBa.out.size))
                by_cases hlt : j < 0
                · exact absurd hlt (by omega)
                · obtain rfl : j = 0 := by omega
                  have HBi := Lib.hid (H1.out.be.trans (HBh.out.mono H1.out.size))
                  go_wp2_with fail
                  refine (HW.out _ HBi.out).mono ?_
                  rintro E wf ⟨rfl, hbf⟩
                  have HBf := Lib.hid (HBi.out.trans (hbf.mono HBi.out.size))
                  clear hbf
                  go_wp2
                  go_ret
                  exact ⟨rfl, HBf.out⟩
            · obtain ⟨hm0, rfl, rfl⟩ := hv
              obtain rfl : m = M + 1 := by omega
              have hz : ∀ w, (binOp .neq 43 (.agg (rcs (l[0]'h0))) (.agg #[.int .i64 0, .int .u64 0, .int .u8 0, .int .u8 0, .int .u8 0, .int .u64 0, .int .u64 0, .int .u64 0, .int .u8 0])).run Tryz.prog w = .ok (.bool true) w := fun w => by
                have := re_neq (l[0]'h0) rz w
                rwa [reB_not GA.out.2.2.2.1] at this
              have k1 : ¬ ((M : Int) + 1 < (sure : Int)) := by omega
              have k1b : decide ((M : Int) + 1 < (sure : Int)) = false := decide_eq_false k1
              have k2 : ¬ ((done : Int) + 1 < (M : Int) + 1) := by omega
              have k2b : decide ((done : Int) + 1 < (M : Int) + 1) = false := decide_eq_false k2
              have k3 : ¬ ((l.length : Int) < (M : Int) + 1) := by omega
              have k3b : decide ((l.length : Int) < (M : Int) + 1) = false := decide_eq_false k3
              have HML := Lib.hid wl
              clear hxl hwh wl hm0
              obtain ⟨g5, w9, z9, s9, h9, q9⟩ := (Loc.nil (Nat.le_refl w8.heap.size)).newA ty_rec #[.int .i64 0, .int .u64 0, .int .u8 0, .int .u8 0, .int .u8 0, .int .u64 0, .int .u64 0, .int .u64 0, .int .u8 0] (rcs (l[0]'h0)) rfl rfl (List.all_eq_true.2 (rcs_one _))
              have H9 := Lib.hid (h9.get 0 rfl)
              have HB9 := Lib.hid (below_of_grown q9)
              have lh := run_ldA (n := 9) ty_rec H9.out 0 (Nat.le_of_ble_eq_true rfl)
              have e0 : (((rcs (l[0]'h0)).toList.drop 0).take 9).toArray = rcs (l[0]'h0) := by simp [rcs]
              rw [e0] at lh
              clear h9 q9 e0
              have HBa := Lib.hid (HB8.out.trans ((HB9.out).mono HB8.out.size))
              go_wp2
              clear lh s9 z9 hz
              go_loopw [21] (fun jv wz => ∃ j : Nat, j ≤ (M + 1) ∧ jv = .int .i64 (j : Int) ∧ Hid (Below w9.heap.size w9 wz)) (fun jv _ => (M + 1) - (intOf jv).toNat)
              case atStart => exact ⟨0, Nat.zero_le _, rfl, Below.refl _ _⟩
              case round =>
                obtain ⟨j, hj, rfl, HJ⟩ := hrel
                have HBg := Lib.hid (HB9.out.trans (HJ.out.mono HB9.out.size))
                have HBh := Lib.hid (HBa.out.trans (HJ.out.mono HBa.out.size))
                by_cases hlt : j < (M + 1)
                · have HLT := Lib.hid hlt
                  rcases Nat.eq_zero_or_pos j with rfl | hjp
                  · obtain ⟨b2, o2, ea, ld2⟩ := AT.out.one h0
                    cases ea
                    have hre := re_neq (l[0]'h0) (l[0]'h0)
                    rw [reB_self] at hre
                    have q1 := fun n => (ld2 (wr.drewN n) (below_drewN HBh.out n)).1 _ ty_rec
                    have q2 := fun n => run_ldA (n := 9) ty_rec (H9.out.below (below_drewN HJ.out n) H9.out.lt) 0 (Nat.le_of_ble_eq_true rfl)
                    have e0 : (((rcs (l[0]'h0)).toList.drop 0).take 9).toArray = rcs (l[0]'h0) := by simp [rcs]
                    simp only [e0] at q2
                    simp only [Nat.zero_mul, Nat.add_zero] at q1
                    have g1 : (0 : Int) < (M : Int) + 1 := by omega
                    clear ld2 e0
                    generalize l[0]'h0 = r0 at *
                    go_wp2
                    go_quiet (fail)
                    go_wp2
                    go_roundw
                    case rel => exact ⟨1, HLT.out, rfl, below_drewN HJ.out _⟩
                    case measure => simp [intOf]
                  · obtain ⟨i', rfl⟩ : ∃ i', j = i' + 1 := ⟨j - 1, by omega⟩
                    have hlx : i' < x.l.length := by rw [HM.out]; omega
                    have hj2 : i' + 1 < l.length := by have := HML.out; omega
                    obtain ⟨b1, o1, rfl, ld1⟩ := AT4.out.one hlx
                    obtain ⟨b2, o2, ea, ld2⟩ := AT.out.one hj2
                    cases ea
                    rw [HXG.out i' hlx hj2] at ld1
                    have hre := re_neq (l[i' + 1]'hj2) (l[i' + 1]'hj2)
                    rw [reB_self] at hre
                    have q1 := fun n => (ld1 (wr.drewN n) (below_drewN HBg.out n)).1 _ ty_rec
                    have q2 := fun n => (ld2 (wr.drewN n) (below_drewN HBh.out n)).1 _ ty_rec
                    have g1 : (i' : Int) + 1 < (M : Int) + 1 := by omega
                    have g2 : ((i' : Int) + 1 == 0) = false := beq_eq_false_iff_ne.2 (by omega)
                    have g3 : (0 : Int) < (i' : Int) + 1 := by omega
                    have g4 : i' < M := by omega
                    have g5 : IntKind.i64.wrap ((i' : Int) + 1 - 1) = (i' : Int) := by rw [show (i' : Int) + 1 - 1 = (i' : Int) from (by omega)]; exact wrapM (by omega)
                    generalize l[i' + 1]'hj2 = r at *
                    clear ld1 ld2 hlx
                    go_wp2
                    go_quiet (fail)
                    go_wp2
                    go_roundw
                    case rel => exact ⟨i' + 1 + 1, HLT.out, by go_num, below_drewN HJ.out _⟩
                    case measure => have := HLT.out; simp [intOf]; omega
                · obtain rfl : j = (M + 1) := by omega
                  have HBi := Lib.hid (H1.out.be.trans (HBh.out.mono H1.out.size))
                  go_wp2_with fail
                  refine (HW.out _ HBi.out).mono ?_
                  rintro E wf ⟨rfl, hbf⟩
                  have HBf := Lib.hid (HBi.out.trans (hbf.mono HBi.out.size))
                  clear hbf
                  go_wp2
                  go_ret
                  exact ⟨rfl, HBf.out⟩
            · obtain ⟨hm0, rfl, rfl⟩ := hv
              obtain rfl : m = M + 1 := by omega
              have hz : ∀ w, (binOp .neq 43 (.agg (rcs (l[0]'h0))) (.agg #[.int .i64 0, .int .u64 0, .int .u8 0, .int .u8 0, .int .u8 0, .int .u64 0, .int .u64 0, .int .u64 0, .int .u8 0])).run Tryz.prog w = .ok (.bool true) w := fun w => by
                have := re_neq (l[0]'h0) rz w
                rwa [reB_not GA.out.2.2.2.1] at this
              have k1 : ¬ ((M : Int) + 1 < (sure : Int)) := by omega
              have k1b : decide ((M : Int) + 1 < (sure : Int)) = false := decide_eq_false k1
              have k2 : ¬ ((done : Int) + 1 < (M : Int) + 1) := by omega
              have k2b : decide ((done : Int) + 1 < (M : Int) + 1) = false := decide_eq_false k2
              have k3 : ¬ ((l.length : Int) < (M : Int) + 1) := by omega
              have k3b : decide ((l.length : Int) < (M : Int) + 1) = false := decide_eq_false k3
              have HML := Lib.hid wl
              clear hxl hwh wl hm0
              obtain ⟨g5, w9, z9, s9, h9, q9⟩ := (Loc.nil (Nat.le_refl w8.heap.size)).newA ty_rec #[.int .i64 0, .int .u64 0, .int .u8 0, .int .u8 0, .int .u8 0, .int .u64 0, .int .u64 0, .int .u64 0, .int .u8 0] (rcs (l[0]'h0)) rfl rfl (List.all_eq_true.2 (rcs_one _))
              have H9 := Lib.hid (h9.get 0 rfl)
              have HB9 := Lib.hid (below_of_grown q9)
              have lh := run_ldA (n := 9) ty_rec H9.out 0 (Nat.le_of_ble_eq_true rfl)
              have e0 : (((rcs (l[0]'h0)).toList.drop 0).take 9).toArray = rcs (l[0]'h0) := by simp [rcs]
              rw [e0] at lh
              clear h9 q9 e0
              have HBa := Lib.hid (HB8.out.trans ((HB9.out).mono HB8.out.size))
              go_wp2
              clear lh s9 z9 hz
              go_loopw [21] (fun jv wz => ∃ j : Nat, j ≤ (M + 1) ∧ jv = .int .i64 (j : Int) ∧ Hid (Below w9.heap.size w9 wz)) (fun jv _ => (M + 1) - (intOf jv).toNat)
              case atStart => exact ⟨0, Nat.zero_le _, rfl, Below.refl _ _⟩
              case round =>
                obtain ⟨j, hj, rfl, HJ⟩ := hrel
                have HBg := Lib.hid (HB9.out.trans (HJ.out.mono HB9.out.size))
                have HBh := Lib.hid (HBa.out.trans (HJ.out.mono HBa.out.size))
                by_cases hlt : j < (M + 1)
                · have HLT := Lib.hid hlt
                  rcases Nat.eq_zero_or_pos j with rfl | hjp
                  · obtain ⟨b2, o2, ea, ld2⟩ := AT.out.one h0
                    cases ea
                    have hre := re_neq (l[0]'h0) (l[0]'h0)
                    rw [reB_self] at hre
                    have q1 := fun n => (ld2 (wr.drewN n) (below_drewN HBh.out n)).1 _ ty_rec
                    have q2 := fun n => run_ldA (n := 9) ty_rec (H9.out.below (below_drewN HJ.out n) H9.out.lt) 0 (Nat.le_of_ble_eq_true rfl)
                    have e0 : (((rcs (l[0]'h0)).toList.drop 0).take 9).toArray = rcs (l[0]'h0) := by simp [rcs]
                    simp only [e0] at q2
                    simp only [Nat.zero_mul, Nat.add_zero] at q1
                    have g1 : (0 : Int) < (M : Int) + 1 := by omega
                    clear ld2 e0
                    generalize l[0]'h0 = r0 at *
                    go_wp2
                    go_quiet (fail)
                    go_wp2
                    go_roundw
                    case rel => exact ⟨1, HLT.out, rfl, below_drewN HJ.out _⟩
                    case measure => simp [intOf]
                  · obtain ⟨i', rfl⟩ : ∃ i', j = i' + 1 := ⟨j - 1, by omega⟩
                    have hlx : i' < x.l.length := by rw [HM.out]; omega
                    have hj2 : i' + 1 < l.length := by have := HML.out; omega
                    obtain ⟨b1, o1, rfl, ld1⟩ := AT4.out.one hlx
                    obtain ⟨b2, o2, ea, ld2⟩ := AT.out.one hj2
                    cases ea
                    rw [HXG.out i' hlx hj2] at ld1
                    have hre := re_neq (l[i' + 1]'hj2) (l[i' + 1]'hj2)
                    rw [reB_self] at hre
                    have q1 := fun n => (ld1 (wr.drewN n) (below_drewN HBg.out n)).1 _ ty_rec
                    have q2 := fun n => (ld2 (wr.drewN n) (below_drewN HBh.out n)).1 _ ty_rec
                    have g1 : (i' : Int) + 1 < (M : Int) + 1 := by omega
                    have g2 : ((i' : Int) + 1 == 0) = false := beq_eq_false_iff_ne.2 (by omega)
                    have g3 : (0 : Int) < (i' : Int) + 1 := by omega
                    have g4 : i' < M := by omega
                    have g5 : IntKind.i64.wrap ((i' : Int) + 1 - 1) = (i' : Int) := by rw [show (i' : Int) + 1 - 1 = (i' : Int) from (by omega)]; exact wrapM (by omega)
                    generalize l[i' + 1]'hj2 = r at *
                    clear ld1 ld2 hlx
                    go_wp2
                    go_quiet (fail)
                    go_wp2
                    go_roundw
                    case rel => exact ⟨i' + 1 + 1, HLT.out, by go_num, below_drewN HJ.out _⟩
                    case measure => have := HLT.out; simp [intOf]; omega
                · obtain rfl : j = (M + 1) := by omega
                  have HBi := Lib.hid (H1.out.be.trans (HBh.out.mono H1.out.size))
                  go_wp2_with fail
                  refine (HW.out _ HBi.out).mono ?_
                  rintro E wf ⟨rfl, hbf⟩
                  have HBf := Lib.hid (HBi.out.trans (hbf.mono HBi.out.size))
                  clear hbf
                  go_wp2
                  go_ret
                  exact ⟨rfl, HBf.out⟩
          · have j1 : (i : Int) < (l.length : Int) := by omega
            have j2 : ((done : Int) == (i : Int)) = false := beq_eq_false_iff_ne.2 (by omega)
            clear h1 h2
            go_wp2_with fail
            refine (blow_c (S := S2) wr HP.out).mono ?_
            rintro E w6 ⟨rfl, hp6, ht6⟩
            have HB6 := Lib.hid (HB.out.trans (HLOW.out _ w6 HZ.out ht6))
            have HP6 := Lib.hid hp6
            clear hp6 ht6
            go_wp2_with fail
            refine (read_c (S := S2) (sgn 1) w6 HP6.out.dk (by rw [sgn_len]; decide)).mono ?_
            rintro E w7 ⟨rfl, hb7⟩
            rw [HRD.out]
            have HB7 := Lib.hid (HB6.out.trans (hb7.mono HB6.out.size))
            have HC := scan_c T 1 w7 (by rw [HKL.out]; omega) (by decide) (tab_b HT.out HT.out.1 (H1.out.to HB7.out).be)
            rw [HSC.out] at HC
            have HC := Lib.hid HC
            clear hb7
            go_wp2_with fail
            refine HC.out.mono ?_
            rintro E w8 ⟨ao4, cap4, rfl, hat4, _, _, _, _, hb8⟩
            dsimp only at hat4 ⊢
            have AT4 := Lib.hid hat4
            rw [HHE.out, HM.out]
            have HB8 := Lib.hid (HB7.out.trans (hb8.mono HB7.out.size))
            clear hat4 hb8 HC HSC HB6 HP6 HP HRD
            have hxl := HXL.out
            have hwh := HWH.out
            have wl := HWL.out
            rcases HV.out with hv | hv | hv
            · obtain ⟨rfl, rfl, rfl⟩ := hv
              obtain rfl : M = 0 := by omega
              obtain rfl : sure = 0 := by omega
              have hz : ∀ w, (binOp .neq 43 (.agg (rcs rz)) (.agg #[.int .i64 0, .int .u64 0, .int .u8 0, .int .u8 0, .int .u8 0, .int .u64 0, .int .u64 0, .int .u64 0, .int .u8 0])).run Tryz.prog w = .ok (.bool false) w := fun w => by
                have := re_neq rz rz w
                rwa [reB_self] at this
              have k2 : ¬ ((done : Int) + 1 < 0) := by omega
              have k2b : decide ((done : Int) + 1 < 0) = false := decide_eq_false k2
              have k3 : ¬ ((l.length : Int) < 0) := by omega
              have k3b : decide ((l.length : Int) < 0) = false := decide_eq_false k3
              clear hxl hwh wl k2 k3
              obtain ⟨g5, w9, z9, s9, h9, q9⟩ := (Loc.nil (Nat.le_refl w8.heap.size)).newA ty_rec #[.int .i64 0, .int .u64 0, .int .u8 0, .int .u8 0, .int .u8 0, .int .u64 0, .int .u64 0, .int .u64 0, .int .u8 0] (rcs rz) rfl rfl (List.all_eq_true.2 (rcs_one _))
              have H9 := Lib.hid (h9.get 0 rfl)
              have HB9 := Lib.hid (below_of_grown q9)
              have lh := run_ldA (n := 9) ty_rec H9.out 0 (Nat.le_of_ble_eq_true rfl)
              have e0 : (((rcs rz).toList.drop 0).take 9).toArray = rcs rz := by simp [rcs]
              rw [e0] at lh
              clear h9 q9 e0
              have HBa := Lib.hid (HB8.out.trans ((HB9.out).mono HB8.out.size))
              go_wp2
              clear lh s9 z9 hz
              go_loopw [21] (fun jv wz => ∃ j : Nat, j ≤ 0 ∧ jv = .int .i64 (j : Int) ∧ Hid (Below w9.heap.size w9 wz)) (fun jv _ => 0 - (intOf jv).toNat)
              case atStart => exact ⟨0, Nat.zero_le _, rfl, Below.refl _ _⟩
              case round =>
                obtain ⟨j, hj, rfl, HJ⟩ := hrel
                have HBg := Lib.hid (HB9.out.trans (HJ.out.mono HB9.out.size))
                have HBh := Lib.hid (HBa.out.trans (HJ.out.mono HBa.out.size))
                by_cases hlt : j < 0
                · exact absurd hlt (by omega)
                · obtain rfl : j = 0 := by omega
                  have HBi := Lib.hid (H1.out.be.trans (HBh.out.mono H1.out.size))
                  go_wp2_with fail
                  refine (HW.out _ HBi.out).mono ?_
                  rintro E wf ⟨rfl, hbf⟩
                  have HBf := Lib.hid (HBi.out.trans (hbf.mono HBi.out.size))
                  clear hbf
                  go_wp2
                  go_ret
                  exact ⟨rfl, HBf.out⟩
            · obtain ⟨hm0, rfl, rfl⟩ := hv
              obtain rfl : m = M + 1 := by omega
              have hz : ∀ w, (binOp .neq 43 (.agg (rcs (l[0]'h0))) (.agg #[.int .i64 0, .int .u64 0, .int .u8 0, .int .u8 0, .int .u8 0, .int .u64 0, .int .u64 0, .int .u64 0, .int .u8 0])).run Tryz.prog w = .ok (.bool true) w := fun w => by
                have := re_neq (l[0]'h0) rz w
                rwa [reB_not GA.out.2.2.2.1] at this
              have k1 : ¬ ((M : Int) + 1 < (sure : Int)) := by omega
              have k1b : decide ((M : Int) + 1 < (sure : Int)) = false := decide_eq_false k1
              have k2 : ¬ ((done : Int) + 1 < (M : Int) + 1) := by omega
              have k2b : decide ((done : Int) + 1 < (M : Int) + 1) = false := decide_eq_false k2
              have k3 : ¬ ((l.length : Int) < (M : Int) + 1) := by omega
              have k3b : decide ((l.length : Int) < (M : Int) + 1) = false := decide_eq_false k3
              have HML := Lib.hid wl
              clear hxl hwh wl hm0
              obtain ⟨g5, w9, z9, s9, h9, q9⟩ := (Loc.nil (Nat.le_refl w8.heap.size)).newA ty_rec #[.int .i64 0, .int .u64 0, .int .u8 0, .int .u8 0, .int .u8 0, .int .u64 0, .int .u64 0, .int .u64 0, .int .u8 0] (rcs (l[0]'h0)) rfl rfl (List.all_eq_true.2 (rcs_one _))
              have H9 := Lib.hid (h9.get 0 rfl)
              have HB9 := Lib.hid (below_of_grown q9)
              have lh := run_ldA (n := 9) ty_rec H9.out 0 (Nat.le_of_ble_eq_true rfl)
              have e0 : (((rcs (l[0]'h0)).toList.drop 0).take 9).toArray = rcs (l[0]'h0) := by simp [rcs]
              rw [e0] at lh
              clear h9 q9 e0
              have HBa := Lib.hid (HB8.out.trans ((HB9.out).mono HB8.out.size))
              go_wp2
              clear lh s9 z9 hz
              go_loopw [21] (fun jv wz => ∃ j : Nat, j ≤ (M + 1) ∧ jv = .int .i64 (j : Int) ∧ Hid (Below w9.heap.size w9 wz)) (fun jv _ => (M + 1) - (intOf jv).toNat)
              case atStart => exact ⟨0, Nat.zero_le _, rfl, Below.refl _ _⟩
              case round =>
                obtain ⟨j, hj, rfl, HJ⟩ := hrel
                have HBg := Lib.hid (HB9.out.trans (HJ.out.mono HB9.out.size))
                have HBh := Lib.hid (HBa.out.trans (HJ.out.mono HBa.out.size))
                by_cases hlt : j < (M + 1)
                · have HLT := Lib.hid hlt
                  rcases Nat.eq_zero_or_pos j with rfl | hjp
                  · obtain ⟨b2, o2, ea, ld2⟩ := AT.out.one h0
                    cases ea
                    have hre := re_neq (l[0]'h0) (l[0]'h0)
                    rw [reB_self] at hre
                    have q1 := fun n => (ld2 (wr.drewN n) (below_drewN HBh.out n)).1 _ ty_rec
                    have q2 := fun n => run_ldA (n := 9) ty_rec (H9.out.below (below_drewN HJ.out n) H9.out.lt) 0 (Nat.le_of_ble_eq_true rfl)
                    have e0 : (((rcs (l[0]'h0)).toList.drop 0).take 9).toArray = rcs (l[0]'h0) := by simp [rcs]
                    simp only [e0] at q2
                    simp only [Nat.zero_mul, Nat.add_zero] at q1
                    have g1 : (0 : Int) < (M : Int) + 1 := by omega
                    clear ld2 e0
                    generalize l[0]'h0 = r0 at *
                    go_wp2
                    go_quiet (fail)
                    go_wp2
                    go_roundw
                    case rel => exact ⟨1, HLT.out, rfl, below_drewN HJ.out _⟩
                    case measure => simp [intOf]
                  · obtain ⟨i', rfl⟩ : ∃ i', j = i' + 1 := ⟨j - 1, by omega⟩
                    have hlx : i' < x.l.length := by rw [HM.out]; omega
                    have hj2 : i' + 1 < l.length := by have := HML.out; omega
                    obtain ⟨b1, o1, rfl, ld1⟩ := AT4.out.one hlx
                    obtain ⟨b2, o2, ea, ld2⟩ := AT.out.one hj2
                    cases ea
                    rw [HXG.out i' hlx hj2] at ld1
                    have hre := re_neq (l[i' + 1]'hj2) (l[i' + 1]'hj2)
                    rw [reB_self] at hre
                    have q1 := fun n => (ld1 (wr.drewN n) (below_drewN HBg.out n)).1 _ ty_rec
                    have q2 := fun n => (ld2 (wr.drewN n) (below_drewN HBh.out n)).1 _ ty_rec
                    have g1 : (i' : Int) + 1 < (M : Int) + 1 := by omega
                    have g2 : ((i' : Int) + 1 == 0) = false := beq_eq_false_iff_ne.2 (by omega)
                    have g3 : (0 : Int) < (i' : Int) + 1 := by omega
                    have g4 : i' < M := by omega
                    have g5 : IntKind.i64.wrap ((i' : Int) + 1 - 1) = (i' : Int) := by rw [show (i' : Int) + 1 - 1 = (i' : Int) from (by omega)]; exact wrapM (by omega)
                    generalize l[i' + 1]'hj2 = r at *
                    clear ld1 ld2 hlx
                    go_wp2
                    go_quiet (fail)
                    go_wp2
                    go_roundw
                    case rel => exact ⟨i' + 1 + 1, HLT.out, by go_num, below_drewN HJ.out _⟩
                    case measure => have := HLT.out; simp [intOf]; omega
                · obtain rfl : j = (M + 1) := by omega
                  have HBi := Lib.hid (H1.out.be.trans (HBh.out.mono H1.out.size))
                  go_wp2_with fail
                  refine (HW.out _ HBi.out).mono ?_
                  rintro E wf ⟨rfl, hbf⟩
                  have HBf := Lib.hid (HBi.out.trans (hbf.mono HBi.out.size))
                  clear hbf
                  go_wp2
                  go_ret
                  exact ⟨rfl, HBf.out⟩
            · obtain ⟨hm0, rfl, rfl⟩ := hv
              obtain rfl : m = M + 1 := by omega
              have hz : ∀ w, (binOp .neq 43 (.agg (rcs (l[0]'h0))) (.agg #[.int .i64 0, .int .u64 0, .int .u8 0, .int .u8 0, .int .u8 0, .int .u64 0, .int .u64 0, .int .u64 0, .int .u8 0])).run Tryz.prog w = .ok (.bool true) w := fun w => by
                have := re_neq (l[0]'h0) rz w
                rwa [reB_not GA.out.2.2.2.1] at this
              have k1 : ¬ ((M : Int) + 1 < (sure : Int)) := by omega
              have k1b : decide ((M : Int) + 1 < (sure : Int)) = false := decide_eq_false k1
              have k2 : ¬ ((done : Int) + 1 < (M : Int) + 1) := by omega
              have k2b : decide ((done : Int) + 1 < (M : Int) + 1) = false := decide_eq_false k2
              have k3 : ¬ ((l.length : Int) < (M : Int) + 1) := by omega
              have k3b : decide ((l.length : Int) < (M : Int) + 1) = false := decide_eq_false k3
              have HML := Lib.hid wl
              clear hxl hwh wl hm0
              obtain ⟨g5, w9, z9, s9, h9, q9⟩ := (Loc.nil (Nat.le_refl w8.heap.size)).newA ty_rec #[.int .i64 0, .int .u64 0, .int .u8 0, .int .u8 0, .int .u8 0, .int .u64 0, .int .u64 0, .int .u64 0, .int .u8 0] (rcs (l[0]'h0)) rfl rfl (List.all_eq_true.2 (rcs_one _))
              have H9 := Lib.hid (h9.get 0 rfl)
              have HB9 := Lib.hid (below_of_grown q9)
              have lh := run_ldA (n := 9) ty_rec H9.out 0 (Nat.le_of_ble_eq_true rfl)
              have e0 : (((rcs (l[0]'h0)).toList.drop 0).take 9).toArray = rcs (l[0]'h0) := by simp [rcs]
              rw [e0] at lh
              clear h9 q9 e0
              have HBa := Lib.hid (HB8.out.trans ((HB9.out).mono HB8.out.size))
              go_wp2
              clear lh s9 z9 hz
              go_loopw [21] (fun jv wz => ∃ j : Nat, j ≤ (M + 1) ∧ jv = .int .i64 (j : Int) ∧ Hid (Below w9.heap.size w9 wz)) (fun jv _ => (M + 1) - (intOf jv).toNat)
              case atStart => exact ⟨0, Nat.zero_le _, rfl, Below.refl _ _⟩
              case round =>
                obtain ⟨j, hj, rfl, HJ⟩ := hrel
                have HBg := Lib.hid (HB9.out.trans (HJ.out.mono HB9.out.size))
                have HBh := Lib.hid (HBa.out.trans (HJ.out.mono HBa.out.size))
                by_cases hlt : j < (M + 1)
                · have HLT := Lib.hid hlt
                  rcases Nat.eq_zero_or_pos j with rfl | hjp
                  · obtain ⟨b2, o2, ea, ld2⟩ := AT.out.one h0
                    cases ea
                    have hre := re_neq (l[0]'h0) (l[0]'h0)
                    rw [reB_self] at hre
                    have q1 := fun n => (ld2 (wr.drewN n) (below_drewN HBh.out n)).1 _ ty_rec
                    have q2 := fun n => run_ldA (n := 9) ty_rec (H9.out.below (below_drewN HJ.out n) H9.out.lt) 0 (Nat.le_of_ble_eq_true rfl)
                    have e0 : (((rcs (l[0]'h0)).toList.drop 0).take 9).toArray = rcs (l[0]'h0) := by simp [rcs]
                    simp only [e0] at q2
                    simp only [Nat.zero_mul, Nat.add_zero] at q1
                    have g1 : (0 : Int) < (M : Int) + 1 := by omega
                    clear ld2 e0
                    generalize l[0]'h0 = r0 at *
                    go_wp2
                    go_quiet (fail)
                    go_wp2
                    go_roundw
                    case rel => exact ⟨1, HLT.out, rfl, below_drewN HJ.out _⟩
                    case measure => simp [intOf]
                  · obtain ⟨i', rfl⟩ : ∃ i', j = i' + 1 := ⟨j - 1, by omega⟩
                    have hlx : i' < x.l.length := by rw [HM.out]; omega
                    have hj2 : i' + 1 < l.length := by have := HML.out; omega
                    obtain ⟨b1, o1, rfl, ld1⟩ := AT4.out.one hlx
                    obtain ⟨b2, o2, ea, ld2⟩ := AT.out.one hj2
                    cases ea
                    rw [HXG.out i' hlx hj2] at ld1
                    have hre := re_neq (l[i' + 1]'hj2) (l[i' + 1]'hj2)
                    rw [reB_self] at hre
                    have q1 := fun n => (ld1 (wr.drewN n) (below_drewN HBg.out n)).1 _ ty_rec
                    have q2 := fun n => (ld2 (wr.drewN n) (below_drewN HBh.out n)).1 _ ty_rec
                    have g1 : (i' : Int) + 1 < (M : Int) + 1 := by omega
                    have g2 : ((i' : Int) + 1 == 0) = false := beq_eq_false_iff_ne.2 (by omega)
                    have g3 : (0 : Int) < (i' : Int) + 1 := by omega
                    have g4 : i' < M := by omega
                    have g5 : IntKind.i64.wrap ((i' : Int) + 1 - 1) = (i' : Int) := by rw [show (i' : Int) + 1 - 1 = (i' : Int) from (by omega)]; exact wrapM (by omega)
                    generalize l[i' + 1]'hj2 = r at *
                    clear ld1 ld2 hlx
                    go_wp2
                    go_quiet (fail)
                    go_wp2
                    go_roundw
                    case rel => exact ⟨i' + 1 + 1, HLT.out, by go_num, below_drewN HJ.out _⟩
                    case measure => have := HLT.out; simp [intOf]; omega
                · obtain rfl : j = (M + 1) := by omega
                  have HBi := Lib.hid (H1.out.be.trans (HBh.out.mono H1.out.size))
                  go_wp2_with fail
                  refine (HW.out _ HBi.out).mono ?_
                  rintro E wf ⟨rfl, hbf⟩
                  have HBf := Lib.hid (HBi.out.trans (hbf.mono HBi.out.size))
                  clear hbf
                  go_wp2
                  go_ret
                  exact ⟨rfl, HBf.out⟩
    · have g4 : (ce == 0) = false := beq_eq_false_iff_ne.2 c4
      have K4 := Lib.hid k4
      clear c4 k4
      go_wp2_with fail
      refine (seg_c 1 _ (by decide)).mono ?_
      rintro E w5 ⟨rfl, hb5⟩
      have HB5 := Lib.hid (HB4.out.trans (hb5.mono HB4.out.size))
      have HZ5 := Lib.hid (Nat.le_trans HZ4.out hb5.size)
      have HP5 := Lib.hid (HP4.out.new hb5)
      clear hb5 g4 HP4 HB4 HZ4
      go_wp2
      go_loopw [10, 11, 13] (fun sv dv iv wr => ∃ (sure done i : Nat) (p : Pw), 1 ≤ i ∧ i ≤ l.length ∧ sure ≤ done ∧ done ≤ i ∧ sv = .int .i64 (sure : Int) ∧ dv = .int .i64 (done : Int) ∧ iv = .int .i64 (i : Int) ∧ Hid (TOn l p sure done ∨ TOff l p sure done) ∧ Hid (PwC S2 wr g (.pointer (some ⟨gd, 0, none⟩)) 1048576 kno knc p) ∧ Hid (Below w1.heap.size w1 wr) ∧ Hid (w3.heap.size ≤ wr.heap.size) ∧ Hid (p.n ≤ 3 + 2 * i)) (fun _ _ iv _ => l.length - (intOf iv).toNat)
      case atStart => exact ⟨0, 0, 1, p4, Nat.le_refl _, h0, Nat.le_refl _, by omega, rfl, rfl, rfl, (.inr K4.out), HP5.out, HB5.out, HZ5.out, by have := HN4.out; show _ ≤ _; omega⟩
      case round =>
        obtain ⟨sure, done, i, p, hi1, hil, hsd, hdi, rfl, rfl, rfl, HTI, HP, HB, HZ, HN⟩ := hrel
        clear HP5 HB5 HZ5 HN4 K4
        have hx : (i < l.length ∧ done = i) ∨ ¬ i < l.length ∨ (i < l.length ∧ done ≠ i) := by omega
        rcases hx with ⟨hlt, hd⟩ | hx
        · subst hd
          obtain ⟨b', o', ea, ldi⟩ := AT.out.one hlt
          cases ea
          have l1 := (ldi wr HB.out).1 _ ty_rec
          have TA := t_append (q := 1048576) hlt (by decide) (by have := HBL.out; omega) (GA.out.2.2.2.2 _ hlt hi1) hsd HTI.out
          have hf := GA.out.1 _ (List.getElem_mem hlt)
          have hn6 := SAP_n p 1048576 1 (l[done]'hlt)
          have HLT := Lib.hid hlt
          have hili : (done : Int) < (l.length : Int) := by omega
          clear ldi
          go_wp2_with fail
          refine (sappend_c (S := S2) 1 (l[done]'hlt) wr HP.out (fun x hx => HNEW.out x (Nat.le_trans HZ.out hx)) (by decide) hf (by have := HN.out; omega) (tab_b HT.out HT.out.1 (H1.out.to HB.out).be)).mono ?_
          rintro E w6 ⟨rfl, hp6, ht6⟩
          have HB6 := Lib.hid (HB.out.trans (HLOW.out _ w6 HZ.out ht6))
          have HZ6 := Lib.hid (Nat.le_trans HZ.out ht6.size)
          generalize SAE p 1048576 1 (l[done]'hlt) = ce at TA ⊢
          generalize SAP p 1048576 1 (l[done]'hlt) = p6 at TA hp6 hn6
          have HP6 := Lib.hid hp6
          have HN6 : Hid (p6.n ≤ 3 + 2 * done + 1) := by show _ ≤ _; have := HN.out; omega
          clear l1 hf hp6 ht6 hn6 HP HB HZ HN
          have lA := (H1.out.to HB6.out).ldO ty_u8 1 rfl 0 (v := .int .u8 (a0 : Int)) rfl
          have hi9 : done ≤ 201 := by omega
          rcases TA with ⟨c6, k6⟩ | ⟨c6, k6⟩
          · have g6 : (ce == 0) = true := by rw [c6]; rfl
            have K6 := Lib.hid k6
            clear c6 k6 HTI
            by_cases h17 : done = a0
            · have g7 : ((done : Int) == (a0 : Int)) = true := by rw [h17]; simp
              have TS := t_sync (q := 1048576) (t := []) (show sure ≤ (done + 1) by omega) (.inl K6.out)
              clear h17
              go_wp2_with fail
              refine (psync_c (S := S2) (sgn 1) [] w6 HP6.out (fun x hx => HNEW.out x (Nat.le_trans HZ6.out hx)) (by rw [sgn_len]; decide) (by simp) (by have := HN6.out; omega)).mono ?_
              rintro E w7 ⟨rfl, hp7, ht7⟩
              have HB7 := Lib.hid (HB6.out.trans (HLOW.out _ w7 HZ6.out ht7))
              have HZ7 := Lib.hid (Nat.le_trans HZ6.out ht7.size)
              obtain ⟨cj, hcj⟩ : ∃ cj : Nat, cj = p6.wrc 2 1048576 (sgn 1) [] := ⟨_, rfl⟩
              have hcd : p6.code (wrR 2 1048576 p6.E (sgn 1) []) = cj := hcj.symm
              rw [hcd]
              rw [← hcj] at TS
              have HN7 : Hid ((p6.wr 2 1048576 (sgn 1) []).n ≤ 3 + 2 * (done + 1)) := by show (p6.after _).n ≤ _; have := HN6.out; have := after_n p6 (wrE 2 1048576 p6.E (sgn 1) []); omega
              have HP7 : Hid (PwC S2 w7 g (.pointer (some ⟨gd, 0, none⟩)) 1048576 kno knc (p6.wr 2 1048576 (sgn 1) [])) := hp7
              clear hp7 ht7 hcj hcd lA
              rcases TS with ⟨c7, k7⟩ | ⟨c7, k7⟩
              · have g8 : ((cj : Int) == 0) = true := by rw [c7]; rfl
                have K7 := Lib.hid k7
                clear c7 k7
                go_wp2
                go_roundw
                case rel => exact ⟨(done + 1), (done + 1), done + 1, _, by omega, HLT.out, by omega, by omega, by first | rfl | go_num, by first | rfl | go_num, by go_num, .inl K7.out, HP7.out, HB7.out, HZ7.out, HN7.out⟩
                case measure => have := HLT.out; simp [intOf]; omega
              · have g8 : ((cj : Int) == 0) = false := beq_eq_false_iff_ne.2 (by omega)
                have K7 := Lib.hid k7
                clear c7 k7
                go_wp2
                go_roundw
                case rel => exact ⟨sure, (done + 1), done + 1, _, by omega, HLT.out, by omega, by omega, rfl, by first | rfl | go_num, by go_num, .inr K7.out, HP7.out, HB7.out, HZ7.out, HN7.out⟩
                case measure => have := HLT.out; simp [intOf]; omega
            · have g7 : ((done : Int) == (a0 : Int)) = false := beq_eq_false_iff_ne.2 (by omega)
              clear h17
              go_wp2
              go_roundw
              case rel => exact ⟨sure, (done + 1), done + 1, _, by omega, HLT.out, by omega, by omega, rfl, by first | rfl | go_num, by go_num, (.inl K6.out), HP6.out, HB6.out, HZ6.out, by have := HN6.out; show _ ≤ _; omega⟩
              case measure => have := HLT.out; simp [intOf]; omega
          · have g6 : (ce == 0) = false := beq_eq_false_iff_ne.2 c6
            have K6 := Lib.hid k6
            clear c6 k6 HTI
            by_cases h17 : done = a0
            · have g7 : ((done : Int) == (a0 : Int)) = true := by rw [h17]; simp
              have TS := t_sync (q := 1048576) (t := []) (show sure ≤ done by omega) (.inr K6.out)
              clear h17
              go_wp2_with fail
              refine (psync_c (S := S2) (sgn 1) [] w6 HP6.out (fun x hx => HNEW.out x (Nat.le_trans HZ6.out hx)) (by rw [sgn_len]; decide) (by simp) (by have := HN6.out; omega)).mono ?_
              rintro E w7 ⟨rfl, hp7, ht7⟩
              have HB7 := Lib.hid (HB6.out.trans (HLOW.out _ w7 HZ6.out ht7))
              have HZ7 := Lib.hid (Nat.le_trans HZ6.out ht7.size)
              obtain ⟨cj, hcj⟩ : ∃ cj : Nat, cj = p6.wrc 2 1048576 (sgn 1) [] := ⟨_, rfl⟩
              have hcd : p6.code (wrR 2 1048576 p6.E (sgn 1) []) = cj := hcj.symm
              rw [hcd]
              rw [← hcj] at TS
              have HN7 : Hid ((p6.wr 2 1048576 (sgn 1) []).n ≤ 3 + 2 * (done + 1)) := by show (p6.after _).n ≤ _; have := HN6.out; have := after_n p6 (wrE 2 1048576 p6.E (sgn 1) []); omega
              have HP7 : Hid (PwC S2 w7 g (.pointer (some ⟨gd, 0, none⟩)) 1048576 kno knc (p6.wr 2 1048576 (sgn 1) [])) := hp7
              clear hp7 ht7 hcj hcd lA
              rcases TS with ⟨c7, k7⟩ | ⟨c7, k7⟩
              · have g8 : ((cj : Int) == 0) = true := by rw [c7]; rfl
                have K7 := Lib.hid k7
                clear c7 k7
                go_wp2
                go_roundw
                case rel => exact ⟨done, done, done + 1, _, by omega, HLT.out, by omega, by omega, by first | rfl | go_num, by first | rfl | go_num, by go_num, .inl K7.out, HP7.out, HB7.out, HZ7.out, HN7.out⟩
                case measure => have := HLT.out; simp [intOf]; omega
              · have g8 : ((cj : Int) == 0) = false := beq_eq_false_iff_ne.2 (by omega)
                have K7 := Lib.hid k7
                clear c7 k7
                go_wp2
                go_roundw
                case rel => exact ⟨sure, done, done + 1, _, by omega, HLT.out, by omega, by omega, rfl, by first | rfl | go_num, by go_num, .inr K7.out, HP7.out, HB7.out, HZ7.out, HN7.out⟩
                case measure => have := HLT.out; simp [intOf]; omega
            · have g7 : ((done : Int) == (a0 : Int)) = false := beq_eq_false_iff_ne.2 (by omega)
              clear h17
              go_wp2
              go_roundw
              case rel => exact ⟨sure, done, done + 1, _, by omega, HLT.out, by omega, by omega, rfl, by first | rfl | go_num, by go_num, (.inr K6.out), HP6.out, HB6.out, HZ6.out, by have := HN6.out; show _ ≤ _; omega⟩
              case measure => have := HLT.out; simp [intOf]; omega
        · obtain ⟨k, hk1, hk2, hk3, hk4⟩ := t_read (t_blow HTI.out)
          have hdl : sure ≤ l.length := by omega
          have hwh := t_whole hk2 hk3 hdl
          obtain ⟨wl, ws1, ws2⟩ := whole_spec l k
          obtain ⟨m, hm⟩ : ∃ m, whole l k = m := ⟨_, rfl⟩
          rw [hm] at hwh wl ws1 ws2
          obtain ⟨x, e, hs, hxl, hxg, hv4⟩ := begin_all GO.out h0 wl ws1 ws2 hk4
          obtain ⟨hh, hhe⟩ : ∃ hh : Rc, x.h = hh := ⟨_, rfl⟩
          obtain ⟨M, hM⟩ : ∃ M, x.l.length = M := ⟨_, rfl⟩
          rw [hhe] at hv4
          rw [hM] at hxl
          have HV : Hid ((m = 0 ∧ hh = rz ∧ e = 10) ∨ (0 < m ∧ hh = l[0]'h0 ∧ e = 0) ∨ (0 < m ∧ hh = l[0]'h0 ∧ e = 10)) := by
            show _ ∨ _
            rcases hv4 with h | h | h | h
            · exact .inl ⟨h.1, h.2.1, h.2.2.1⟩
            · exact .inl ⟨h.1, h.2.1, h.2.2.1⟩
            · exact .inr (.inl ⟨h.1, h.2.1, h.2.2.1⟩)
            · exact .inr (.inr ⟨h.1, h.2.1, h.2.2.1⟩)
          have HXG := Lib.hid hxg
          have HM := Lib.hid hM
          have HHE := Lib.hid hhe
          have HSC := Lib.hid hs
          have HRD := Lib.hid hk1
          have hkl : ((bys l).take k).length = k := by rw [List.length_take]; omega
          have HKL := Lib.hid hkl
          have hsz := str_size ((bys l).take k)
          rw [hkl] at hsz
          have hks : k ≤ 6432 := by have := HBL.out; omega
          have k4 : ¬ ((k : Int) < (((bys (l.take m)).length : Nat) : Int)) := by omega
          have k4b : decide ((k : Int) < (((bys (l.take m)).length : Nat) : Int)) = false := decide_eq_false k4
          have htl : (bys (l.take m)).length ≤ 6432 := by omega
          have hm2 : M ≤ 201 := by omega
          have HXL : Hid (M = m - 1) := hxl
          have HWH := Lib.hid hwh
          have HWL := Lib.hid wl
          clear hk1 hk2 hk3 hk4 hm hs hxg hv4 hhe hM ws1 ws2 hkl hxl hwh wl hdl
          generalize (bys (l.take m)).length = tl at *
          generalize (bys l).take k = T at *
          rcases hx with h1 | ⟨h1, h2⟩
          · have j1 : ¬ (i : Int) < (l.length : Int) := by omega
            clear h1
            go_wp2_with fail
            refine (blow_c (S := S2) wr HP.out).mono ?_
            rintro E w6 ⟨rfl, hp6, ht6⟩
            have HB6 := Lib.hid (HB.out.trans (HLOW.out _ w6 HZ.out ht6))
            have HP6 := Lib.hid hp6
            clear hp6 ht6
            go_wp2_with fail
            refine (read_c (S := S2) (sgn 1) w6 HP6.out.dk (by rw [sgn_len]; decide)).mono ?_
            rintro E w7 ⟨rfl, hb7⟩
            rw [HRD.out]
            have HB7 := Lib.hid (HB6.out.trans (hb7.mono HB6.out.size))
            have HC := scan_c T 1 w7 (by rw [HKL.out]; omega) (by decide) (tab_b HT.out HT.out.1 (H1.out.to HB7.out).be)
            rw [HSC.out] at HC
            have HC := Lib.hid HC
            clear hb7
            go_wp2_with fail
            refine HC.out.mono ?_
            rintro E w8 ⟨ao4, cap4, rfl, hat4, _, _, _, _, hb8⟩
            dsimp only at hat4 ⊢
            have AT4 := Lib.hid hat4
            rw [HHE.out, HM.out]
            have HB8 := Lib.hid (HB7.out.trans (hb8.mono HB7.out.size))
            clear hat4 hb8 HC HSC HB6 HP6 HP HRD
            have hxl := HXL.out
            have hwh := HWH.out
            have wl := HWL.out
            rcases HV.out with hv | hv | hv
            · obtain ⟨rfl, rfl, rfl⟩ := hv
              obtain rfl : M = 0 := by omega
              obtain rfl : sure = 0 := by omega
              have hz : ∀ w, (binOp .neq 43 (.agg (rcs rz)) (.agg #[.int .i64 0, .int .u64 0, .int .u8 0, .int .u8 0, .int .u8 0, .int .u64 0, .int .u64 0, .int .u64 0, .int .u8 0])).run Tryz.prog w = .ok (.bool false) w := fun w => by
                have := re_neq rz rz w
                rwa [reB_self] at this
              have k2 : ¬ ((done : Int) + 1 < 0) := by omega
              have k2b : decide ((done : Int) + 1 < 0) = false := decide_eq_false k2
              have k3 : ¬ ((l.length : Int) < 0) := by omega
              have k3b : decide ((l.length : Int) < 0) = false := decide_eq_false k3
              clear hxl hwh wl k2 k3
              obtain ⟨g5, w9, z9, s9, h9, q9⟩ := (Loc.nil (Nat.le_refl w8.heap.size)).newA ty_rec #[.int .i64 0, .int .u64 0, .int .u8 0, .int .u8 0, .int .u8 0, .int .u64 0, .int .u64 0, .int .u64 0, .int .u8 0] (rcs rz) rfl rfl (List.all_eq_true.2 (rcs_one _))
              have H9 := Lib.hid (h9.get 0 rfl)
              have HB9 := Lib.hid (below_of_grown q9)
              have lh := run_ldA (n := 9) ty_rec H9.out 0 (Nat.le_of_ble_eq_true rfl)
              have e0 : (((rcs rz).toList.drop 0).take 9).toArray = rcs rz := by simp [rcs]
              rw [e0] at lh
              clear h9 q9 e0
              have HBa := Lib.hid (HB8.out.trans ((HB9.out).mono HB8.out.size))
              go_wp2
              clear lh s9 z9 hz
              go_loopw [21] (fun jv wz => ∃ j : Nat, j ≤ 0 ∧ jv = .int .i64 (j : Int) ∧ Hid (Below w9.heap.size w9 wz)) (fun jv _ => 0 - (intOf jv).toNat)
              case atStart => exact ⟨0, Nat.zero_le _, rfl, Below.refl _ _⟩
              case round =>
                obtain ⟨j, hj, rfl, HJ⟩ := hrel
                have HBg := Lib.hid (HB9.out.trans (HJ.out.mono HB9.out.size))
                have HBh := Lib.hid (HBa.out.trans (HJ.out.mono HBa.out.size))
                by_cases hlt : j < 0
                · exact absurd hlt (by omega)
                · obtain rfl : j = 0 := by omega
                  have HBi := Lib.hid (H1.out.be.trans (HBh.out.mono H1.out.size))
                  go_wp2_with fail
                  refine (HW.out _ HBi.out).mono ?_
                  rintro E wf ⟨rfl, hbf⟩
                  have HBf := Lib.hid (HBi.out.trans (hbf.mono HBi.out.size))
                  clear hbf
                  go_wp2
                  go_ret
                  exact ⟨rfl, HBf.out⟩
            · obtain ⟨hm0, rfl, rfl⟩ := hv
              obtain rfl : m = M + 1 := by omega
              have hz : ∀ w, (binOp .neq 43 (.agg (rcs (l[0]'h0))) (.agg #[.int .i64 0, .int .u64 0, .int .u8 0, .int .u8 0, .int .u8 0, .int .u64 0, .int .u64 0, .int .u64 0, .int .u8 0])).run Tryz.prog w = .ok (.bool true) w := fun w => by
                have := re_neq (l[0]'h0) rz w
                rwa [reB_not GA.out.2.2.2.1] at this
              have k1 : ¬ ((M : Int) + 1 < (sure : Int)) := by omega
              have k1b : decide ((M : Int) + 1 < (sure : Int)) = false := decide_eq_false k1
              have k2 : ¬ ((done : Int) + 1 < (M : Int) + 1) := by omega
              have k2b : decide ((done : Int) + 1 < (M : Int) + 1) = false := decide_eq_false k2
              have k3 : ¬ ((l.length : Int) < (M : Int) + 1) := by omega
              have k3b : decide ((l.length : Int) < (M : Int) + 1) = false := decide_eq_false k3
              have HML := Lib.hid wl
              clear hxl hwh wl hm0
              obtain ⟨g5, w9, z9, s9, h9, q9⟩ := (Loc.nil (Nat.le_refl w8.heap.size)).newA ty_rec #[.int .i64 0, .int .u64 0, .int .u8 0, .int .u8 0, .int .u8 0, .int .u64 0, .int .u64 0, .int .u64 0, .int .u8 0] (rcs (l[0]'h0)) rfl rfl (List.all_eq_true.2 (rcs_one _))
              have H9 := Lib.hid (h9.get 0 rfl)
              have HB9 := Lib.hid (below_of_grown q9)
              have lh := run_ldA (n := 9) ty_rec H9.out 0 (Nat.le_of_ble_eq_true rfl)
              have e0 : (((rcs (l[0]'h0)).toList.drop 0).take 9).toArray = rcs (l[0]'h0) := by simp [rcs]
              rw [e0] at lh
              clear h9 q9 e0
              have HBa := Lib.hid (HB8.out.trans ((HB9.out).mono HB8.out.size))
              go_wp2
              clear lh s9 z9 hz
              go_loopw [21] (fun jv wz => ∃ j : Nat, j ≤ (M + 1) ∧ jv = .int .i64 (j : Int) ∧ Hid (Below w9.heap.size w9 wz)) (fun jv _ => (M + 1) - (intOf jv).toNat)
              case atStart => exact ⟨0, Nat.zero_le _, rfl, Below.refl _ _⟩
              case round =>
                obtain ⟨j, hj, rfl, HJ⟩ := hrel
                have HBg := Lib.hid (HB9.out.trans (HJ.out.mono HB9.out.size))
                have HBh := Lib.hid (HBa.out.trans (HJ.out.mono HBa.out.size))
                by_cases hlt : j < (M + 1)
                · have HLT := Lib.hid hlt
                  rcases Nat.eq_zero_or_pos j with rfl | hjp
                  · obtain ⟨b2, o2, ea, ld2⟩ := AT.out.one h0
                    cases ea
                    have hre := re_neq (l[0]'h0) (l[0]'h0)
                    rw [reB_self] at hre
                    have q1 := fun n => (ld2 (wr.drewN n) (below_drewN HBh.out n)).1 _ ty_rec
                    have q2 := fun n => run_ldA (n := 9) ty_rec (H9.out.below (below_drewN HJ.out n) H9.out.lt) 0 (Nat.le_of_ble_eq_true rfl)
                    have e0 : (((rcs (l[0]'h0)).toList.drop 0).take 9).toArray = rcs (l[0]'h0) := by simp [rcs]
                    simp only [e0] at q2
                    simp only [Nat.zero_mul, Nat.add_zero] at q1
                    have g1 : (0 : Int) < (M : Int) + 1 := by omega
                    clear ld2 e0
                    generalize l[0]'h0 = r0 at *
                    go_wp2
                    go_quiet (fail)
                    go_wp2
                    go_roundw
                    case rel => exact ⟨1, HLT.out, rfl, below_drewN HJ.out _⟩
                    case measure => simp [intOf]
                  · obtain ⟨i', rfl⟩ : ∃ i', j = i' + 1 := ⟨j - 1, by omega⟩
                    have hlx : i' < x.l.length := by rw [HM.out]; omega
                    have hj2 : i' + 1 < l.length := by have := HML.out; omega
                    obtain ⟨b1, o1, rfl, ld1⟩ := AT4.out.one hlx
                    obtain ⟨b2, o2, ea, ld2⟩ := AT.out.one hj2
                    cases ea
                    rw [HXG.out i' hlx hj2] at ld1
                    have hre := re_neq (l[i' + 1]'hj2) (l[i' + 1]'hj2)
                    rw [reB_self] at hre
                    have q1 := fun n => (ld1 (wr.drewN n) (below_drewN HBg.out n)).1 _ ty_rec
                    have q2 := fun n => (ld2 (wr.drewN n) (below_drewN HBh.out n)).1 _ ty_rec
                    have g1 : (i' : Int) + 1 < (M : Int) + 1 := by omega
                    have g2 : ((i' : Int) + 1 == 0) = false := beq_eq_false_iff_ne.2 (by omega)
                    have g3 : (0 : Int) < (i' : Int) + 1 := by omega
                    have g4 : i' < M := by omega
                    have g5 : IntKind.i64.wrap ((i' : Int) + 1 - 1) = (i' : Int) := by rw [show (i' : Int) + 1 - 1 = (i' : Int) from (by omega)]; exact wrapM (by omega)
                    generalize l[i' + 1]'hj2 = r at *
                    clear ld1 ld2 hlx
                    go_wp2
                    go_quiet (fail)
                    go_wp2
                    go_roundw
                    case rel => exact ⟨i' + 1 + 1, HLT.out, by go_num, below_drewN HJ.out _⟩
                    case measure => have := HLT.out; simp [intOf]; omega
                · obtain rfl : j = (M + 1) := by omega
                  have HBi := Lib.hid (H1.out.be.trans (HBh.out.mono H1.out.size))
                  go_wp2_with fail
                  refine (HW.out _ HBi.out).mono ?_
                  rintro E wf ⟨rfl, hbf⟩
                  have HBf := Lib.hid (HBi.out.trans (hbf.mono HBi.out.size))
                  clear hbf
                  go_wp2
                  go_ret
                  exact ⟨rfl, HBf.out⟩
            · obtain ⟨hm0, rfl, rfl⟩ := hv
              obtain rfl : m = M + 1 := by omega
              have hz : ∀ w, (binOp .neq 43 (.agg (rcs (l[0]'h0))) (.agg #[.int .i64 0, .int .u64 0, .int .u8 0, .int .u8 0, .int .u8 0, .int .u64 0, .int .u64 0, .int .u64 0, .int .u8 0])).run Tryz.prog w = .ok (.bool true) w := fun w => by
                have := re_neq (l[0]'h0) rz w
                rwa [reB_not GA.out.2.2.2.1] at this
              have k1 : ¬ ((M : Int) + 1 < (sure : Int)) := by omega
              have k1b : decide ((M : Int) + 1 < (sure : Int)) = false := decide_eq_false k1
              have k2 : ¬ ((done : Int) + 1 < (M : Int) + 1) := by omega
              have k2b : decide ((done : Int) + 1 < (M : Int) + 1) = false := decide_eq_false k2
              have k3 : ¬ ((l.length : Int) < (M : Int) + 1) := by omega
              have k3b : decide ((l.length : Int) < (M : Int) + 1) = false := decide_eq_false k3
              have HML := Lib.hid wl
              clear hxl hwh wl hm0
              obtain ⟨g5, w9, z9, s9, h9, q9⟩ := (Loc.nil (Nat.le_refl w8.heap.size)).newA ty_rec #[.int .i64 0, .int .u64 0, .int .u8 0, .int .u8 0, .int .u8 0, .int .u64 0, .int .u64 0, .int .u64 0, .int .u8 0] (rcs (l[0]'h0)) rfl rfl (List.all_eq_true.2 (rcs_one _))
              have H9 := Lib.hid (h9.get 0 rfl)
              have HB9 := Lib.hid (below_of_grown q9)
              have lh := run_ldA (n := 9) ty_rec H9.out 0 (Nat.le_of_ble_eq_true rfl)
              have e0 : (((rcs (l[0]'h0)).toList.drop 0).take 9).toArray = rcs (l[0]'h0) := by simp [rcs]
              rw [e0] at lh
              clear h9 q9 e0
              have HBa := Lib.hid (HB8.out.trans ((HB9.out).mono HB8.out.size))
              go_wp2
              clear lh s9 z9 hz
              go_loopw [21] (fun jv wz => ∃ j : Nat, j ≤ (M + 1) ∧ jv = .int .i64 (j : Int) ∧ Hid (Below w9.heap.size w9 wz)) (fun jv _ => (M + 1) - (intOf jv).toNat)
              case atStart => exact ⟨0, Nat.zero_le _, rfl, Below.refl _ _⟩
              case round =>
                obtain ⟨j, hj, rfl, HJ⟩ := hrel
                have HBg := Lib.hid (HB9.out.trans (HJ.out.mono HB9.out.size))
                have HBh := Lib.hid (HBa.out.trans (HJ.out.mono HBa.out.size))
                by_cases hlt : j < (M + 1)
                · have HLT := Lib.hid hlt
                  rcases Nat.eq_zero_or_pos j with rfl | hjp
                  · obtain ⟨b2, o2, ea, ld2⟩ := AT.out.one h0
                    cases ea
                    have hre := re_neq (l[0]'h0) (l[0]'h0)
                    rw [reB_self] at hre
                    have q1 := fun n => (ld2 (wr.drewN n) (below_drewN HBh.out n)).1 _ ty_rec
                    have q2 := fun n => run_ldA (n := 9) ty_rec (H9.out.below (below_drewN HJ.out n) H9.out.lt) 0 (Nat.le_of_ble_eq_true rfl)
                    have e0 : (((rcs (l[0]'h0)).toList.drop 0).take 9).toArray = rcs (l[0]'h0) := by simp [rcs]
                    simp only [e0] at q2
                    simp only [Nat.zero_mul, Nat.add_zero] at q1
                    have g1 : (0 : Int) < (M : Int) + 1 := by omega
                    clear ld2 e0
                    generalize l[0]'h0 = r0 at *
                    go_wp2
                    go_quiet (fail)
                    go_wp2
                    go_roundw
                    case rel => exact ⟨1, HLT.out, rfl, below_drewN HJ.out _⟩
                    case measure => simp [intOf]
                  · obtain ⟨i', rfl⟩ : ∃ i', j = i' + 1 := ⟨j - 1, by omega⟩
                    have hlx : i' < x.l.length := by rw [HM.out]; omega
                    have hj2 : i' + 1 < l.length := by have := HML.out; omega
                    obtain ⟨b1, o1, rfl, ld1⟩ := AT4.out.one hlx
                    obtain ⟨b2, o2, ea, ld2⟩ := AT.out.one hj2
                    cases ea
                    rw [HXG.out i' hlx hj2] at ld1
                    have hre := re_neq (l[i' + 1]'hj2) (l[i' + 1]'hj2)
                    rw [reB_self] at hre
                    have q1 := fun n => (ld1 (wr.drewN n) (below_drewN HBg.out n)).1 _ ty_rec
                    have q2 := fun n => (ld2 (wr.drewN n) (below_drewN HBh.out n)).1 _ ty_rec
                    have g1 : (i' : Int) + 1 < (M : Int) + 1 := by omega
                    have g2 : ((i' : Int) + 1 == 0) = false := beq_eq_false_iff_ne.2 (by omega)
                    have g3 : (0 : Int) < (i' : Int) + 1 := by omega
                    have g4 : i' < M := by omega
                    have g5 : IntKind.i64.wrap ((i' : Int) + 1 - 1) = (i' : Int) := by rw [show (i' : Int) + 1 - 1 = (i' : Int) from (by omega)]; exact wrapM (by omega)
                    generalize l[i' + 1]'hj2 = r at *
                    clear ld1 ld2 hlx
                    go_wp2
                    go_quiet (fail)
                    go_wp2
                    go_roundw
                    case rel => exact ⟨i' + 1 + 1, HLT.out, by go_num, below_drewN HJ.out _⟩
                    case measure => have := HLT.out; simp [intOf]; omega
                · obtain rfl : j = (M + 1) := by omega
                  have HBi := Lib.hid (H1.out.be.trans (HBh.out.mono H1.out.size))
                  go_wp2_with fail
                  refine (HW.out _ HBi.out).mono ?_
                  rintro E wf ⟨rfl, hbf⟩
                  have HBf := Lib.hid (HBi.out.trans (hbf.mono HBi.out.size))
                  clear hbf
                  go_wp2
                  go_ret
                  exact ⟨rfl, HBf.out⟩
          · have j1 : (i : Int) < (l.length : Int) := by omega
            have j2 : ((done : Int) == (i : Int)) = false := beq_eq_false_iff_ne.2 (by omega)
            clear h1 h2
            go_wp2_with fail
            refine (blow_c (S := S2) wr HP.out).mono ?_
            rintro E w6 ⟨rfl, hp6, ht6⟩
            have HB6 := Lib.hid (HB.out.trans (HLOW.out _ w6 HZ.out ht6))
            have HP6 := Lib.hid hp6
            clear hp6 ht6
            go_wp2_with fail
            refine (read_c (S := S2) (sgn 1) w6 HP6.out.dk (by rw [sgn_len]; decide)).mono ?_
            rintro E w7 ⟨rfl, hb7⟩
            rw [HRD.out]
            have HB7 := Lib.hid (HB6.out.trans (hb7.mono HB6.out.size))
            have HC := scan_c T 1 w7 (by rw [HKL.out]; omega) (by decide) (tab_b HT.out HT.out.1 (H1.out.to HB7.out).be)
            rw [HSC.out] at HC
            have HC := Lib.hid HC
            clear hb7
            go_wp2_with fail
            refine HC.out.mono ?_
            rintro E w8 ⟨ao4, cap4, rfl, hat4, _, _, _, _, hb8⟩
            dsimp only at hat4 ⊢
            have AT4 := Lib.hid hat4
            rw [HHE.out, HM.out]
            have HB8 := Lib.hid (HB7.out.trans (hb8.mono HB7.out.size))
            clear hat4 hb8 HC HSC HB6 HP6 HP HRD
            have hxl := HXL.out
            have hwh := HWH.out
            have wl := HWL.out
            rcases HV.out with hv | hv | hv
            · obtain ⟨rfl, rfl, rfl⟩ := hv
              obtain rfl : M = 0 := by omega
              obtain rfl : sure = 0 := by omega
              have hz : ∀ w, (binOp .neq 43 (.agg (rcs rz)) (.agg #[.int .i64 0, .int .u64 0, .int .u8 0, .int .u8 0, .int .u8 0, .int .u64 0, .int .u64 0, .int .u64 0, .int .u8 0])).run Tryz.prog w = .ok (.bool false) w := fun w => by
                have := re_neq rz rz w
                rwa [reB_self] at this
              have k2 : ¬ ((done : Int) + 1 < 0) := by omega
              have k2b : decide ((done : Int) + 1 < 0) = false := decide_eq_false k2
              have k3 : ¬ ((l.length : Int) < 0) := by omega
              have k3b : decide ((l.length : Int) < 0) = false := decide_eq_false k3
              clear hxl hwh wl k2 k3
              obtain ⟨g5, w9, z9, s9, h9, q9⟩ := (Loc.nil (Nat.le_refl w8.heap.size)).newA ty_rec #[.int .i64 0, .int .u64 0, .int .u8 0, .int .u8 0, .int .u8 0, .int .u64 0, .int .u64 0, .int .u64 0, .int .u8 0] (rcs rz) rfl rfl (List.all_eq_true.2 (rcs_one _))
              have H9 := Lib.hid (h9.get 0 rfl)
              have HB9 := Lib.hid (below_of_grown q9)
              have lh := run_ldA (n := 9) ty_rec H9.out 0 (Nat.le_of_ble_eq_true rfl)
              have e0 : (((rcs rz).toList.drop 0).take 9).toArray = rcs rz := by simp [rcs]
              rw [e0] at lh
              clear h9 q9 e0
              have HBa := Lib.hid (HB8.out.trans ((HB9.out).mono HB8.out.size))
              go_wp2
              clear lh s9 z9 hz
              go_loopw [21] (fun jv wz => ∃ j : Nat, j ≤ 0 ∧ jv = .int .i64 (j : Int) ∧ Hid (Below w9.heap.size w9 wz)) (fun jv _ => 0 - (intOf jv).toNat)
              case atStart => exact ⟨0, Nat.zero_le _, rfl, Below.refl _ _⟩
              case round =>
                obtain ⟨j, hj, rfl, HJ⟩ := hrel
                have HBg := Lib.hid (HB9.out.trans (HJ.out.mono HB9.out.size))
                have HBh := Lib.hid (HBa.out.trans (HJ.out.mono HBa.out.size))
                by_cases hlt : j < 0
                · exact absurd hlt (by omega)
                · obtain rfl : j = 0 := by omega
                  have HBi := Lib.hid (H1.out.be.trans (HBh.out.mono H1.out.size))
                  go_wp2_with fail
                  refine (HW.out _ HBi.out).mono ?_
                  rintro E wf ⟨rfl, hbf⟩
                  have HBf := Lib.hid (HBi.out.trans (hbf.mono HBi.out.size))
                  clear hbf
                  go_wp2
                  go_ret
                  exact ⟨rfl, HBf.out⟩
            · obtain ⟨hm0, rfl, rfl⟩ := hv
              obtain rfl : m = M + 1 := by omega
              have hz : ∀ w, (binOp .neq 43 (.agg (rcs (l[0]'h0))) (.agg #[.int .i64 0, .int .u64 0, .int .u8 0, .int .u8 0, .int .u8 0, .int .u64 0, .int .u64 0, .int .u64 0, .int .u8 0])).run Tryz.prog w = .ok (.bool true) w := fun w => by
                have := re_neq (l[0]'h0) rz w
                rwa [reB_not GA.out.2.2.2.1] at this
              have k1 : ¬ ((M : Int) + 1 < (sure : Int)) := by omega
              have k1b : decide ((M : Int) + 1 < (sure : Int)) = false := decide_eq_false k1
              have k2 : ¬ ((done : Int) + 1 < (M : Int) + 1) := by omega
              have k2b : decide ((done : Int) + 1 < (M : Int) + 1) = false := decide_eq_false k2
              have k3 : ¬ ((l.length : Int) < (M : Int) + 1) := by omega
              have k3b : decide ((l.length : Int) < (M : Int) + 1) = false := decide_eq_false k3
              have HML := Lib.hid wl
              clear hxl hwh wl hm0
              obtain ⟨g5, w9, z9, s9, h9, q9⟩ := (Loc.nil (Nat.le_refl w8.heap.size)).newA ty_rec #[.int .i64 0, .int .u64 0, .int .u8 0, .int .u8 0, .int .u8 0, .int .u64 0, .int .u64 0, .int .u64 0, .int .u8 0] (rcs (l[0]'h0)) rfl rfl (List.all_eq_true.2 (rcs_one _))
              have H9 := Lib.hid (h9.get 0 rfl)
              have HB9 := Lib.hid (below_of_grown q9)
              have lh := run_ldA (n := 9) ty_rec H9.out 0 (Nat.le_of_ble_eq_true rfl)
              have e0 : (((rcs (l[0]'h0)).toList.drop 0).take 9).toArray = rcs (l[0]'h0) := by simp [rcs]
              rw [e0] at lh
              clear h9 q9 e0
              have HBa := Lib.hid (HB8.out.trans ((HB9.out).mono HB8.out.size))
              go_wp2
              clear lh s9 z9 hz
              go_loopw [21] (fun jv wz => ∃ j : Nat, j ≤ (M + 1) ∧ jv = .int .i64 (j : Int) ∧ Hid (Below w9.heap.size w9 wz)) (fun jv _ => (M + 1) - (intOf jv).toNat)
              case atStart => exact ⟨0, Nat.zero_le _, rfl, Below.refl _ _⟩
              case round =>
                obtain ⟨j, hj, rfl, HJ⟩ := hrel
                have HBg := Lib.hid (HB9.out.trans (HJ.out.mono HB9.out.size))
                have HBh := Lib.hid (HBa.out.trans (HJ.out.mono HBa.out.size))
                by_cases hlt : j < (M + 1)
                · have HLT := Lib.hid hlt
                  rcases Nat.eq_zero_or_pos j with rfl | hjp
                  · obtain ⟨b2, o2, ea, ld2⟩ := AT.out.one h0
                    cases ea
                    have hre := re_neq (l[0]'h0) (l[0]'h0)
                    rw [reB_self] at hre
                    have q1 := fun n => (ld2 (wr.drewN n) (below_drewN HBh.out n)).1 _ ty_rec
                    have q2 := fun n => run_ldA (n := 9) ty_rec (H9.out.below (below_drewN HJ.out n) H9.out.lt) 0 (Nat.le_of_ble_eq_true rfl)
                    have e0 : (((rcs (l[0]'h0)).toList.drop 0).take 9).toArray = rcs (l[0]'h0) := by simp [rcs]
                    simp only [e0] at q2
                    simp only [Nat.zero_mul, Nat.add_zero] at q1
                    have g1 : (0 : Int) < (M : Int) + 1 := by omega
                    clear ld2 e0
                    generalize l[0]'h0 = r0 at *
                    go_wp2
                    go_quiet (fail)
                    go_wp2
                    go_roundw
                    case rel => exact ⟨1, HLT.out, rfl, below_drewN HJ.out _⟩
                    case measure => simp [intOf]
                  · obtain ⟨i', rfl⟩ : ∃ i', j = i' + 1 := ⟨j - 1, by omega⟩
                    have hlx : i' < x.l.length := by rw [HM.out]; omega
                    have hj2 : i' + 1 < l.length := by have := HML.out; omega
                    obtain ⟨b1, o1, rfl, ld1⟩ := AT4.out.one hlx
                    obtain ⟨b2, o2, ea, ld2⟩ := AT.out.one hj2
                    cases ea
                    rw [HXG.out i' hlx hj2] at ld1
                    have hre := re_neq (l[i' + 1]'hj2) (l[i' + 1]'hj2)
                    rw [reB_self] at hre
                    have q1 := fun n => (ld1 (wr.drewN n) (below_drewN HBg.out n)).1 _ ty_rec
                    have q2 := fun n => (ld2 (wr.drewN n) (below_drewN HBh.out n)).1 _ ty_rec
                    have g1 : (i' : Int) + 1 < (M : Int) + 1 := by omega
                    have g2 : ((i' : Int) + 1 == 0) = false := beq_eq_false_iff_ne.2 (by omega)
                    have g3 : (0 : Int) < (i' : Int) + 1 := by omega
                    have g4 : i' < M := by omega
                    have g5 : IntKind.i64.wrap ((i' : Int) + 1 - 1) = (i' : Int) := by rw [show (i' : Int) + 1 - 1 = (i' : Int) from (by omega)]; exact wrapM (by omega)
                    generalize l[i' + 1]'hj2 = r at *
                    clear ld1 ld2 hlx
                    go_wp2
                    go_quiet (fail)
                    go_wp2
                    go_roundw
                    case rel => exact ⟨i' + 1 + 1, HLT.out, by go_num, below_drewN HJ.out _⟩
                    case measure => have := HLT.out; simp [intOf]; omega
                · obtain rfl : j = (M + 1) := by omega
                  have HBi := Lib.hid (H1.out.be.trans (HBh.out.mono H1.out.size))
                  go_wp2_with fail
                  refine (HW.out _ HBi.out).mono ?_
                  rintro E wf ⟨rfl, hbf⟩
                  have HBf := Lib.hid (HBi.out.trans (hbf.mono HBi.out.size))
                  clear hbf
                  go_wp2
                  go_ret
                  exact ⟨rfl, HBf.out⟩
            · obtain ⟨hm0, rfl, rfl⟩ := hv
              obtain rfl : m = M + 1 := by omega
              have hz : ∀ w, (binOp .neq 43 (.agg (rcs (l[0]'h0))) (.agg #[.int .i64 0, .int .u64 0, .int .u8 0, .int .u8 0, .int .u8 0, .int .u64 0, .int .u64 0, .int .u64 0, .int .u8 0])).run Tryz.prog w = .ok (.bool true) w := fun w => by
                have := re_neq (l[0]'h0) rz w
                rwa [reB_not GA.out.2.2.2.1] at this
              have k1 : ¬ ((M : Int) + 1 < (sure : Int)) := by omega
              have k1b : decide ((M : Int) + 1 < (sure : Int)) = false := decide_eq_false k1
              have k2 : ¬ ((done : Int) + 1 < (M : Int) + 1) := by omega
              have k2b : decide ((done : Int) + 1 < (M : Int) + 1) = false := decide_eq_false k2
              have k3 : ¬ ((l.length : Int) < (M : Int) + 1) := by omega
              have k3b : decide ((l.length : Int) < (M : Int) + 1) = false := decide_eq_false k3
              have HML := Lib.hid wl
              clear hxl hwh wl hm0
              obtain ⟨g5, w9, z9, s9, h9, q9⟩ := (Loc.nil (Nat.le_refl w8.heap.size)).newA ty_rec #[.int .i64 0, .int .u64 0, .int .u8 0, .int .u8 0, .int .u8 0, .int .u64 0, .int .u64 0, .int .u64 0, .int .u8 0] (rcs (l[0]'h0)) rfl rfl (List.all_eq_true.2 (rcs_one _))
              have H9 := Lib.hid (h9.get 0 rfl)
              have HB9 := Lib.hid (below_of_grown q9)
              have lh := run_ldA (n := 9) ty_rec H9.out 0 (Nat.le_of_ble_eq_true rfl)
              have e0 : (((rcs (l[0]'h0)).toList.drop 0).take 9).toArray = rcs (l[0]'h0) := by simp [rcs]
              rw [e0] at lh
              clear h9 q9 e0
              have HBa := Lib.hid (HB8.out.trans ((HB9.out).mono HB8.out.size))
              go_wp2
              clear lh s9 z9 hz
              go_loopw [21] (fun jv wz => ∃ j : Nat, j ≤ (M + 1) ∧ jv = .int .i64 (j : Int) ∧ Hid (Below w9.heap.size w9 wz)) (fun jv _ => (M + 1) - (intOf jv).toNat)
              case atStart => exact ⟨0, Nat.zero_le _, rfl, Below.refl _ _⟩
              case round =>
                obtain ⟨j, hj, rfl, HJ⟩ := hrel
                have HBg := Lib.hid (HB9.out.trans (HJ.out.mono HB9.out.size))
                have HBh := Lib.hid (HBa.out.trans (HJ.out.mono HBa.out.size))
                by_cases hlt : j < (M + 1)
                · have HLT := Lib.hid hlt
                  rcases Nat.eq_zero_or_pos j with rfl | hjp
                  · obtain ⟨b2, o2, ea, ld2⟩ := AT.out.one h0
                    cases ea
                    have hre := re_neq (l[0]'h0) (l[0]'h0)
                    rw [reB_self] at hre
                    have q1 := fun n => (ld2 (wr.drewN n) (below_drewN HBh.out n)).1 _ ty_rec
                    have q2 := fun n => run_ldA (n := 9) ty_rec (H9.out.below (below_drewN HJ.out n) H9.out.lt) 0 (Nat.le_of_ble_eq_true rfl)
                    have e0 : (((rcs (l[0]'h0)).toList.drop 0).take 9).toArray = rcs (l[0]'h0) := by simp [rcs]
                    simp only [e0] at q2
                    simp only [Nat.zero_mul, Nat.add_zero] at q1
                    have g1 : (0 : Int) < (M : Int) + 1 := by omega
                    clear ld2 e0
                    generalize l[0]'h0 = r0 at *
                    go_wp2
                    go_quiet (fail)
                    go_wp2
                    go_roundw
                    case rel => exact ⟨1, HLT.out, rfl, below_drewN HJ.out _⟩
                    case measure => simp [intOf]
                  · obtain ⟨i', rfl⟩ : ∃ i', j = i' + 1 := ⟨j - 1, by omega⟩
                    have hlx : i' < x.l.length := by rw [HM.out]; omega
                    have hj2 : i' + 1 < l.length := by have := HML.out; omega
                    obtain ⟨b1, o1, rfl, ld1⟩ := AT4.out.one hlx
                    obtain ⟨b2, o2, ea, ld2⟩ := AT.out.one hj2
                    cases ea
                    rw [HXG.out i' hlx hj2] at ld1
                    have hre := re_neq (l[i' + 1]'hj2) (l[i' + 1]'hj2)
                    rw [reB_self] at hre
                    have q1 := fun n => (ld1 (wr.drewN n) (below_drewN HBg.out n)).1 _ ty_rec
                    have q2 := fun n => (ld2 (wr.drewN n) (below_drewN HBh.out n)).1 _ ty_rec
                    have g1 : (i' : Int) + 1 < (M : Int) + 1 := by omega
                    have g2 : ((i' : Int) + 1 == 0) = false := beq_eq_false_iff_ne.2 (by omega)
                    have g3 : (0 : Int) < (i' : Int) + 1 := by omega
                    have g4 : i' < M := by omega
                    have g5 : IntKind.i64.wrap ((i' : Int) + 1 - 1) = (i' : Int) := by rw [show (i' : Int) + 1 - 1 = (i' : Int) from (by omega)]; exact wrapM (by omega)
                    generalize l[i' + 1]'hj2 = r at *
                    clear ld1 ld2 hlx
                    go_wp2
                    go_quiet (fail)
                    go_wp2
                    go_roundw
                    case rel => exact ⟨i' + 1 + 1, HLT.out, by go_num, below_drewN HJ.out _⟩
                    case measure => have := HLT.out; simp [intOf]; omega
                · obtain rfl : j = (M + 1) := by omega
                  have HBi := Lib.hid (H1.out.be.trans (HBh.out.mono H1.out.size))
                  go_wp2_with fail
                  refine (HW.out _ HBi.out).mono ?_
                  rintro E wf ⟨rfl, hbf⟩
                  have HBf := Lib.hid (HBi.out.trans (hbf.mono HBi.out.size))
                  clear hbf
                  go_wp2
                  go_ret
                  exact ⟨rfl, HBf.out⟩
end Go.Proofs.YthnelnfefllhpaaGreatDoor
