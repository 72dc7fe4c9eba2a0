/- Texts of the walk. -/
import Derived.Test.YtgeaacabpnepmaaGreatDoorLt9
/- JournalKnown: the walk. Nothing is assumed. -/
namespace Go.Proofs.YtgeaacabpnepmaaGreatDoor
open Go.RowKit
set_option linter.unusedVariables false
set_option linter.unusedSimpArgs false
set_option maxRecDepth 20000

def b3 : Ans := jSure 5000 aS.p aS.j 1 0 0
def b4 : Ans := jOwn 5000 b3.p b3.j 2 0
def b5 : Ans := jOwn 5000 b4.p b4.j 0 0
def b6 : Ans := jOwn 5000 b5.p b5.j 1 64
def b7 : Ans := jSync 5000 b6.p b6.j
def b8 : Ans := jOwn 5000 b7.p b7.j 1 7
def b9 : Ans := jSure 5000 b8.p b8.j 1 8 9
def b11 : Ans := jOwn 5000 b9.p.blow b9.j 2 0
def b12 : Ans := jOwn 5000 b11.p b11.j 2 0
def b13 : Ans := jSync 5000 b12.p b12.j
def o14 : Op := opR 5000 0 4 ⟨-1, [1000003], 0, false, b13.p.E⟩
def b15 : Ans := jOwn 5000 o14.p (opJ 4 o14) 1 7
def b16 : Ans := jRoll 5000 b15.p b15.j
def b17 : Ans := jKeep 5000 b16.p b16.j 0 [3, 3]
def b18 : Ans := jKeep 5000 b17.p b17.j 1 []
def o19 : Op := opR 5000 0 4 ⟨-1, [], 0, false, b18.p.blow.E⟩
def o20 : Op := opR 5000 1 4 ⟨-1, [], 0, false, o19.p.E⟩
set_option maxHeartbeats 4000000
theorem aS_ap : aS.j.ap < 1000000 := by decide +kernel
theorem b3_s : b3.e = 11 ∧ b3.p.n < 1000 ∧ b3.j.ap < 1000 := by decide +kernel
theorem b4_s : b4.e = 11 ∧ b4.p.n < 1000 ∧ b4.j.ap < 1000 := by decide +kernel
theorem b5_s : b5.e = 11 ∧ b5.p.n < 1000 ∧ b5.j.ap < 1000 := by decide +kernel
theorem b6_s : b6.e = 2 ∧ b6.p.n < 1000 ∧ b6.j.ap < 1000 ∧ b6.j.c = 1 ∧ b6.j.sy = 0 ∧ b6.j.ow = 1 := by decide +kernel
theorem b7_s : b7.e = 0 ∧ b7.p.n < 1000 ∧ b7.j.ap < 1000 ∧ b7.j.sy = 1 := by decide +kernel
theorem b8_s : b8.e = 0 ∧ b8.p.n < 1000 ∧ b8.j.ap < 1000 := by decide +kernel
theorem b9_s : b9.e = 14 ∧ b9.p.n < 1000 ∧ b9.j.ap < 1000 ∧ b9.j.ow = 2 ∧ b9.j.os = 1 ∧ jDue b9.j = false ∧ (jMan b9.j).sg.length = 1 ∧ b9.p.blow.n < 1000 := by decide +kernel
theorem b11_s : b11.e = 8 ∧ b11.p.n < 1000 ∧ b11.j.ap < 1000 := by decide +kernel
theorem b12_s : b12.e = 13 ∧ b12.p.n < 1000 := by decide +kernel
theorem b13_s : b13.e = 13 ∧ b13.p.n < 1000 ∧ b13.j.c = 1 ∧ (jMan b13.j).sg.length = 0 := by decide +kernel
theorem o14_s : o14.e = 0 ∧ o14.m.ep = 2 ∧ o14.f = false ∧ o14.x.ps = [(5, 6)] ∧ o14.x.ah = [] ∧ o14.p.n < 1000 := by decide +kernel
theorem b15_s : b15.e = 0 ∧ b15.p.n < 1000 := by decide +kernel
theorem b16_s : b16.e = 0 ∧ b16.p.n < 1000 := by decide +kernel
theorem b17_s : b17.e = 4 ∧ b17.p.n < 1000 ∧ (jMan b17.j).sg.length = 2 := by decide +kernel
theorem b18_s : b18.e = 0 ∧ b18.p.n < 1000 ∧ (jMan b18.j).sg.length = 1 := by decide +kernel
theorem o19_s : o19.e = 0 ∧ o19.m.ep = 3 ∧ o19.x.fr = 1 ∧ o19.x.ps = [] ∧ o19.x.ah = [7] := by decide +kernel
theorem o20_j : jlE ⟨-1, [], 0, false, o19.p.E⟩ 1 = 14 := by decide +kernel
theorem o20_s : o20.e = 14 ∧ o20.p.E = o19.p.E := by
  unfold o20 opR fdR
  rw [if_pos (by decide), o20_j]
  exact ⟨rfl, rfl⟩

attribute [local go_sem ↓] ld_found st_found ld_u64 ld_bool ld_prs ld_inps ld_pair ld_input
set_option maxHeartbeats 16000000 in
theorem law_known (w : World) (ht : Tab w) : Calls Tryz.prog 4 #[] w fun R w' => R = .returned (.bool true) ∧ Below w.heap.size w w' := by
  have HT := Lib.hid ht
  have KN : Hid (Calls Tryz.prog 10 #[.int .i64 5000] w (NewPost 5000 w)) := new_c 5000 w
  have hmaxu : Hid (1 < w.heap.size) := ht.1
  clear ht
  go_enter Tryz.func4, Tryz.ntmps4
  go_wp2_with fail
  refine KN.out.mono ?_
  rintro R w1 ⟨hb1, (⟨_, _, dv, rfl, hd1⟩ | ⟨h1, _⟩)⟩
  rotate_left
  · omega
  have hd1' : DkS (fun x => w.heap.size ≤ x ∧ x < w1.heap.size) w1 dv 5000 [] := hd1.mono fun x hx h => ⟨h, hx⟩
  have HB1 := Lib.hid hb1
  have HOC : Hid (Calls Tryz.prog 15 #[dv, .slice none 0 0] w1 (OdPost (fun x => w.heap.size ≤ x ∧ x < w1.heap.size) w1 5000 dv [] [])) := opened_c none [] 0 w1 hd1' (fun j hj => by cases hj) (by decide) aO_says.1 (tab_below HT.out hb1) (fun h => by have := hmaxu.out; omega) (fun x h => h.2)
  clear hd1 hd1' hb1 KN
  go_wp2_with fail
  refine HOC.out.mono ?_
  rintro R w2 ⟨gj, gp, ko, kc, co, cc, po, pc, io, ic, V2, rfl, hj2, hv2, ht2, _⟩
  have e0 : opR 5000 0 4 ⟨-1, [], 0, false, []⟩ = aO := rfl
  rw [e0] at hj2 ⊢
  have HB2 : Hid (Below w.heap.size w w2) := HB1.out.trans (ht2.below (fun x hx hs => by omega) HB1.out.size)
  have HK0 : Hid (Kj w.heap.size w w2 gj gp 5000 dv ko kc aO.p (opJ 4 aO)) := ⟨⟨V2, hj2, fun x hx => by
    have := HB1.out.size
    rcases hv2 x hx with h | h
    · exact h.1.1
    · omega⟩, HB2.out, Nat.le_refl _⟩
  clear hj2 hv2 ht2 e0 HOC
  obtain ⟨gf1, wf1, zf1, sf1, Hf1, qf1⟩ := (Loc.nil (Nat.le_refl w2.heap.size)).newA ty_found #[.int .u64 0, .bool false, .slice none 0 0, .int .u64 0, .slice none 0 0, .slice none 0 0] (fcs aO co cc po pc io ic) rfl rfl rfl
  have l1 := Hf1.ldO ty_u64 0 rfl 0 (v := .int .u64 (aO.m.ep : Int)) rfl
  rw [aO_says.2.1] at l1
  have l2 := Hf1.ldO ty_bool 0 rfl 1 (v := .bool aO.f) rfl
  rw [aO_says.2.2.1] at l2
  have l3 := Hf1.ldO ty_u64 0 rfl 3 (v := .int .u64 (aO.x.fr : Int)) rfl
  rw [aO_says.2.2.2.2.1] at l3
  have l4 := Hf1.ldO ty_prs 0 rfl 4 (v := .slice po aO.x.ps.length pc) rfl
  rw [aO_says.2.2.2.2.2] at l4
  have HKf1 := Lib.hid (HK0.out.new (below_of_grown qf1))
  have HT1 := Lib.hid (tab_below HT.out HKf1.out.be)
  have C1 : Hid (Calls Tryz.prog 16 #[.pointer (some ⟨gj, 0, none⟩), .int .u64 0, .int .u8 5] wf1 fun R w' => R = .returned (.int .i64 0) ∧ Kj w.heap.size w w' gj gp 5000 dv ko kc aW.p aW.j) := HKf1.out.call fun V h hvb => by
    have := jown_c 0 5 wf1 h (by have := aO_says.2.2.2.1; omega) (by decide) HT1.out (by decide)
    rw [show (jOwn 5000 aO.p (opJ 4 aO) 0 5).e = 0 from aW_says.1] at this
    exact this
  clear Hf1 qf1
  go_wp2_with fail
  refine C1.out.mono ?_
  rintro R v1 ⟨rfl, hk1⟩
  have HK1 := Lib.hid hk1
  clear hk1 C1 HKf1
  have HT2 := Lib.hid (tab_below HT.out HK1.out.be)
  have C2 : Hid (Calls Tryz.prog 17 #[.pointer (some ⟨gj, 0, none⟩), .int .u64 0, .agg #[.int .u8 5, .int .u8 6]] v1 fun R w' => R = .returned (.int .i64 0) ∧ Kj w.heap.size w w' gj gp 5000 dv ko kc aS.p aS.j) := HK1.out.call fun V h hvb => by
    have := jsure_c 0 5 6 v1 h (by have := aW_says.2.1; omega) (by have := aW_says.2.2; omega) HT2.out (by decide)
    rw [show (jSure 5000 aW.p aW.j 0 5 6).e = 0 from aS_says.1] at this
    exact this
  clear l1 l2 l3 l4 sf1 zf1
  go_wp2_with fail
  refine C2.out.mono ?_
  rintro R v2 ⟨rfl, hk2⟩
  have HK2 := Lib.hid hk2
  clear hk2 C2 HK1
  have HT3 := Lib.hid (tab_below HT.out HK2.out.be)
  have C3 : Hid (Calls Tryz.prog 17 #[.pointer (some ⟨gj, 0, none⟩), .int .u64 1, .agg #[.int .u8 0, .int .u8 0]] v2 fun R w' => R = .returned (.int .i64 11) ∧ Kj w.heap.size w w' gj gp 5000 dv ko kc b3.p b3.j) := HK2.out.call fun V h hvb => by
    have := jsure_c 1 0 0 v2 h (by have := aS_says.2.1; omega) aS_ap HT3.out (by decide)
    rw [show (jSure 5000 aS.p aS.j 1 0 0).e = 11 from b3_s.1] at this
    exact this
  go_wp2_with fail
  refine C3.out.mono ?_
  rintro R v3 ⟨rfl, hk3⟩
  have HK3 := Lib.hid hk3
  clear hk3 C3 HK2
  have HT4 := Lib.hid (tab_below HT.out HK3.out.be)
  have C4 : Hid (Calls Tryz.prog 16 #[.pointer (some ⟨gj, 0, none⟩), .int .u64 2, .int .u8 0] v3 fun R w' => R = .returned (.int .i64 11) ∧ Kj w.heap.size w w' gj gp 5000 dv ko kc b4.p b4.j) := HK3.out.call fun V h hvb => by
    have := jown_c 2 0 v3 h (by have := b3_s.2.1; omega) (by have := b3_s.2.2; omega) HT4.out (by decide)
    rw [show (jOwn 5000 b3.p b3.j 2 0).e = 11 from b4_s.1] at this
    exact this
  go_wp2_with fail
  refine C4.out.mono ?_
  rintro R v4 ⟨rfl, hk4⟩
  have HK4 := Lib.hid hk4
  clear hk4 C4 HK3
  have HT5 := Lib.hid (tab_below HT.out HK4.out.be)
  have C5 : Hid (Calls Tryz.prog 16 #[.pointer (some ⟨gj, 0, none⟩), .int .u64 0, .int .u8 0] v4 fun R w' => R = .returned (.int .i64 11) ∧ Kj w.heap.size w w' gj gp 5000 dv ko kc b5.p b5.j) := HK4.out.call fun V h hvb => by
    have := jown_c 0 0 v4 h (by have := b4_s.2.1; omega) (by have := b4_s.2.2; omega) HT5.out (by decide)
    rw [show (jOwn 5000 b4.p b4.j 0 0).e = 11 from b5_s.1] at this
    exact this
  go_wp2_with fail
  refine C5.out.mono ?_
  rintro R v5 ⟨rfl, hk5⟩
  have HK5 := Lib.hid hk5
  clear hk5 C5 HK4
  have HT6 := Lib.hid (tab_below HT.out HK5.out.be)
  have C6 : Hid (Calls Tryz.prog 16 #[.pointer (some ⟨gj, 0, none⟩), .int .u64 1, .int .u8 64] v5 fun R w' => R = .returned (.int .i64 2) ∧ Kj w.heap.size w w' gj gp 5000 dv ko kc b6.p b6.j) := HK5.out.call fun V h hvb => by
    have := jown_c 1 64 v5 h (by have := b5_s.2.1; omega) (by have := b5_s.2.2; omega) HT6.out (by decide)
    rw [show (jOwn 5000 b5.p b5.j 1 64).e = 2 from b6_s.1] at this
    exact this
  go_wp2_with fail
  refine C6.out.mono ?_
  rintro R v6 ⟨rfl, hk6⟩
  have HK6 := Lib.hid hk6
  clear hk6 C6 HK5
  have C7 : Hid (Calls Tryz.prog 18 #[.pointer (some ⟨gj, 0, none⟩)] v6 fun R w' => R = .returned (.int .u64 1) ∧ v6 = w') := by
    have := HK6.out.nums.out.1
    rw [b6_s.2.2.2.1] at this
    exact this
  go_wp2_with fail
  refine C7.out.mono ?_
  rintro R w' ⟨rfl, rfl⟩
  clear C7
  have C8 : Hid (Calls Tryz.prog 19 #[.pointer (some ⟨gj, 0, none⟩)] v6 fun R w' => R = .returned (.int .u64 0) ∧ v6 = w') := by
    have := HK6.out.nums.out.2.1
    rw [b6_s.2.2.2.2.1] at this
    exact this
  go_wp2_with fail
  refine C8.out.mono ?_
  rintro R w' ⟨rfl, rfl⟩
  clear C8
  have C9 : Hid (Calls Tryz.prog 20 #[.pointer (some ⟨gj, 0, none⟩)] v6 fun R w' => R = .returned (.int .u64 1) ∧ Kj w.heap.size w w' gj gp 5000 dv ko kc b6.p b6.j) := by
    have := HK6.out.nums.out.2.2.2.1
    rw [b6_s.2.2.2.2.2] at this
    exact this
  go_wp2_with fail
  refine C9.out.mono ?_
  rintro R v9 ⟨rfl, hk9⟩
  have HK9 := Lib.hid hk9
  clear hk9 C9 HK6
  have HT10 := Lib.hid (tab_below HT.out HK9.out.be)
  have C10 : Hid (Calls Tryz.prog 21 #[.pointer (some ⟨gj, 0, none⟩)] v9 fun R w' => R = .returned (.int .i64 0) ∧ Kj w.heap.size w w' gj gp 5000 dv ko kc b7.p b7.j) := HK9.out.call fun V h hvb => by
    have := jsync_c v9 h (by have := b6_s.2.1; omega)
    rw [show (jSync 5000 b6.p b6.j).e = 0 from b7_s.1] at this
    exact this
  go_wp2_with fail
  refine C10.out.mono ?_
  rintro R v10 ⟨rfl, hk10⟩
  have HK10 := Lib.hid hk10
  clear hk10 C10 HK9
  have C11 : Hid (Calls Tryz.prog 19 #[.pointer (some ⟨gj, 0, none⟩)] v10 fun R w' => R = .returned (.int .u64 1) ∧ v10 = w') := by
    have := HK10.out.nums.out.2.1
    rw [b7_s.2.2.2] at this
    exact this
  go_wp2_with fail
  refine C11.out.mono ?_
  rintro R w' ⟨rfl, rfl⟩
  clear C11
  have HT12 := Lib.hid (tab_below HT.out HK10.out.be)
  have C12 : Hid (Calls Tryz.prog 16 #[.pointer (some ⟨gj, 0, none⟩), .int .u64 1, .int .u8 7] v10 fun R w' => R = .returned (.int .i64 0) ∧ Kj w.heap.size w w' gj gp 5000 dv ko kc b8.p b8.j) := HK10.out.call fun V h hvb => by
    have := jown_c 1 7 v10 h (by have := b7_s.2.1; omega) (by have := b7_s.2.2.1; omega) HT12.out (by decide)
    rw [show (jOwn 5000 b7.p b7.j 1 7).e = 0 from b8_s.1] at this
    exact this
  go_wp2_with fail
  refine C12.out.mono ?_
  rintro R v12 ⟨rfl, hk12⟩
  have HK12 := Lib.hid hk12
  clear hk12 C12 HK10
  have HT13 := Lib.hid (tab_below HT.out HK12.out.be)
  have C13 : Hid (Calls Tryz.prog 17 #[.pointer (some ⟨gj, 0, none⟩), .int .u64 1, .agg #[.int .u8 8, .int .u8 9]] v12 fun R w' => R = .returned (.int .i64 14) ∧ Kj w.heap.size w w' gj gp 5000 dv ko kc b9.p b9.j) := HK12.out.call fun V h hvb => by
    have := jsure_c 1 8 9 v12 h (by have := b8_s.2.1; omega) (by have := b8_s.2.2; omega) HT13.out (by decide)
    rw [show (jSure 5000 b8.p b8.j 1 8 9).e = 14 from b9_s.1] at this
    exact this
  go_wp2_with fail
  refine C13.out.mono ?_
  rintro R v13 ⟨rfl, hk13⟩
  have HK13 := Lib.hid hk13
  clear hk13 C13 HK12
  have C14 : Hid (Calls Tryz.prog 20 #[.pointer (some ⟨gj, 0, none⟩)] v13 fun R w' => R = .returned (.int .u64 2) ∧ Kj w.heap.size w w' gj gp 5000 dv ko kc b9.p b9.j) := by
    have := HK13.out.nums.out.2.2.2.1
    rw [b9_s.2.2.2.1] at this
    exact this
  go_wp2_with fail
  refine C14.out.mono ?_
  rintro R v14 ⟨rfl, hk14⟩
  have HK14 := Lib.hid hk14
  clear hk14 C14 HK13
  have C15 : Hid (Calls Tryz.prog 22 #[.pointer (some ⟨gj, 0, none⟩)] v14 fun R w' => R = .returned (.int .u64 1) ∧ v14 = w') := by
    have := HK14.out.nums.out.2.2.1
    rw [b9_s.2.2.2.2.1] at this
    exact this
  go_wp2_with fail
  refine C15.out.mono ?_
  rintro R w' ⟨rfl, rfl⟩
  clear C15
  have C16 : Hid (Calls Tryz.prog 23 #[.pointer (some ⟨gj, 0, none⟩)] v14 fun R w' => R = .returned (.bool false) ∧ Kj w.heap.size w w' gj gp 5000 dv ko kc b9.p b9.j) := by
    have := HK14.out.nums.out.2.2.2.2.1
    rw [b9_s.2.2.2.2.2.1] at this
    exact this
  go_wp2_with fail
  refine C16.out.mono ?_
  rintro R v16 ⟨rfl, hk16⟩
  have HK16 := Lib.hid hk16
  clear hk16 C16 HK14
  have C17 := Lib.hid HK16.out.nums.out.2.2.2.2.2
  go_wp2_with fail
  refine C17.out.mono ?_
  rintro R v17 ⟨so17, sc17, co17, cc17, rfl, hk17⟩
  have HK17 := Lib.hid hk17
  have hf17 := fun W => fld_sg (jMan b9.j) so17 sc17 co17 cc17 W
  rw [b9_s.2.2.2.2.2.2.1] at hf17
  clear hk17 C17 HK16
  have C18 := Lib.hid HK17.out.blow
  go_wp2_with fail
  refine C18.out.mono ?_
  rintro R v18 ⟨rfl, hk18⟩
  have HK18 := Lib.hid hk18
  clear hk18 C18 HK17
  have HT19 := Lib.hid (tab_below HT.out HK18.out.be)
  have C19 : Hid (Calls Tryz.prog 16 #[.pointer (some ⟨gj, 0, none⟩), .int .u64 2, .int .u8 0] v18 fun R w' => R = .returned (.int .i64 8) ∧ Kj w.heap.size w w' gj gp 5000 dv ko kc b11.p b11.j) := HK18.out.call fun V h hvb => by
    have := jown_c 2 0 v18 h (by have := b9_s.2.2.2.2.2.2.2; omega) (by have := b9_s.2.2.1; omega) HT19.out (by decide)
    rw [show (jOwn 5000 b9.p.blow b9.j 2 0).e = 8 from b11_s.1] at this
    exact this
  clear hf17
  go_wp2_with fail
  refine C19.out.mono ?_
  rintro R v19 ⟨rfl, hk19⟩
  have HK19 := Lib.hid hk19
  clear hk19 C19 HK18
  have HT20 := Lib.hid (tab_below HT.out HK19.out.be)
  have C20 : Hid (Calls Tryz.prog 16 #[.pointer (some ⟨gj, 0, none⟩), .int .u64 2, .int .u8 0] v19 fun R w' => R = .returned (.int .i64 13) ∧ Kj w.heap.size w w' gj gp 5000 dv ko kc b12.p b12.j) := HK19.out.call fun V h hvb => by
    have := jown_c 2 0 v19 h (by have := b11_s.2.1; omega) (by have := b11_s.2.2; omega) HT20.out (by decide)
    rw [show (jOwn 5000 b11.p b11.j 2 0).e = 13 from b12_s.1] at this
    exact this
  go_wp2_with fail
  refine C20.out.mono ?_
  rintro R v20 ⟨rfl, hk20⟩
  have HK20 := Lib.hid hk20
  clear hk20 C20 HK19
  have HT21 := Lib.hid (tab_below HT.out HK20.out.be)
  have C21 : Hid (Calls Tryz.prog 21 #[.pointer (some ⟨gj, 0, none⟩)] v20 fun R w' => R = .returned (.int .i64 13) ∧ Kj w.heap.size w w' gj gp 5000 dv ko kc b13.p b13.j) := HK20.out.call fun V h hvb => by
    have := jsync_c v20 h (by have := b12_s.2; omega)
    rw [show (jSync 5000 b12.p b12.j).e = 13 from b13_s.1] at this
    exact this
  go_wp2_with fail
  refine C21.out.mono ?_
  rintro R v21 ⟨rfl, hk21⟩
  have HK21 := Lib.hid hk21
  clear hk21 C21 HK20
  have C22 : Hid (Calls Tryz.prog 18 #[.pointer (some ⟨gj, 0, none⟩)] v21 fun R w' => R = .returned (.int .u64 1) ∧ v21 = w') := by
    have := HK21.out.nums.out.1
    rw [b13_s.2.2.1] at this
    exact this
  go_wp2_with fail
  refine C22.out.mono ?_
  rintro R w' ⟨rfl, rfl⟩
  clear C22
  have C23 := Lib.hid HK21.out.nums.out.2.2.2.2.2
  go_wp2_with fail
  refine C23.out.mono ?_
  rintro R v23 ⟨so23, sc23, co23, cc23, rfl, hk23⟩
  have HK23 := Lib.hid hk23
  have hf23 := fun W => fld_sg (jMan b13.j) so23 sc23 co23 cc23 W
  rw [b13_s.2.2.2] at hf23
  clear hk23 C23 HK21
  go_upto_region 10 with fail
  clear hf23
  have HBS : Hid (Below v23.heap.size v23 (v23.alloc (.cells #[.int .i64 1000003] 3))) := below_alloc _ _
  have HIS : Hid (Ints (v23.alloc (.cells #[.int .i64 1000003] 3)) (some ⟨v23.heap.size, 0, none⟩) [1000003]) := fun j hj => by
    have hj : j < 1 := hj
    obtain rfl : j = 0 := by omega
    exact ⟨_, _, rfl, by rw [(Cells.made v23 3 #[.int .i64 1000003]).cell]; rfl, (show (-9223372036854775808 : Int) ≤ 1000003 by decide), (show (1000003 : Int) ≤ 9223372036854775807 by decide)⟩
  have HO14 : Hid (Calls Tryz.prog 15 #[dv, .slice (some ⟨v23.heap.size, 0, none⟩) 1 1] (v23.alloc (.cells #[.int .i64 1000003] 3)) _) := (HK23.out.new HBS.out).again (some ⟨v23.heap.size, 0, none⟩) [1000003] 1 HIS.out (by decide) (O := o14) rfl o14_s.1 HT.out hmaxu.out
  go_wp2_with fail
  refine HO14.out.mono ?_
  rintro R w3 ⟨gj3, gp3, ko3, kc3, co, cc, po, pc, io, ic, rfl, hk3, hp3, hi3, _⟩
  clear HO14 HBS HIS HK23
  have HKa := Lib.hid hk3
  clear hk3 hi3
  rw [o14_s.2.2.2.1] at hp3
  obtain ⟨pb, pk, hpo, hone⟩ := hp3.one (show 0 < [(5, 6)].length by decide)
  subst hpo
  obtain ⟨gf2, wf2, zf2, sf2, Hf2, qf2⟩ := (Loc.nil (Nat.le_refl w3.heap.size)).newA ty_found #[.int .u64 0, .bool false, .slice none 0 0, .int .u64 0, .slice none 0 0, .slice none 0 0] (fcs o14 co cc (some ⟨pb, pk, none⟩) pc io ic) rfl rfl rfl
  have l1 := Hf2.ldO ty_u64 0 rfl 0 (v := .int .u64 (o14.m.ep : Int)) rfl
  rw [o14_s.2.1] at l1
  have l2 := Hf2.ldO ty_bool 0 rfl 1 (v := .bool o14.f) rfl
  rw [o14_s.2.2.1] at l2
  have l4 := Hf2.ldO ty_prs 0 rfl 4 (v := .slice (some ⟨pb, pk, none⟩) o14.x.ps.length pc) rfl
  rw [o14_s.2.2.2.1] at l4
  have l5 := Hf2.ldO ty_inps 0 rfl 5 (v := .slice io o14.x.ah.length ic) rfl
  rw [o14_s.2.2.2.2.1] at l5
  have HKf2 := Lib.hid (HKa.out.new (below_of_grown qf2))
  have l6 : (ldT 40 (.pointer (some ⟨pb, pk, none⟩))).run Tryz.prog wf2 = .ok (.agg #[.int .u8 5, .int .u8 6]) wf2 := by
    have := hone wf2 (below_of_grown qf2)
    rw [Nat.zero_mul, Nat.add_zero] at this
    exact this
  have hne : ∀ w : World, (binOp .neq 40 (.agg #[.int .u8 5, .int .u8 6]) (.agg #[.int .u8 5, .int .u8 6])).run Tryz.prog w = .ok (.bool false) w := fun w => by kernel_rfl
  have HT24 := Lib.hid (tab_below HT.out HKf2.out.be)
  have C24 : Hid (Calls Tryz.prog 16 #[.pointer (some ⟨gj3, 0, none⟩), .int .u64 1, .int .u8 7] wf2 fun R w' => R = .returned (.int .i64 0) ∧ Kj w.heap.size w w' gj3 gp3 5000 dv ko3 kc3 b15.p b15.j) := HKf2.out.call fun V h hvb => by
    have := jown_c 1 7 wf2 h (by have := o14_s.2.2.2.2.2; omega) (by decide) HT24.out (by decide)
    rw [show (jOwn 5000 o14.p (opJ 4 o14) 1 7).e = 0 from b15_s.1] at this
    exact this
  clear Hf2 qf2 hone hp3
  go_wp2_with fail
  refine C24.out.mono ?_
  rintro R v24 ⟨rfl, hk24⟩
  have HK24 := Lib.hid hk24
  clear hk24 C24 HKf2
  have HT25 := Lib.hid (tab_below HT.out HK24.out.be)
  have C25 : Hid (Calls Tryz.prog 26 #[.pointer (some ⟨gj3, 0, none⟩)] v24 fun R w' => R = .returned (.int .i64 0) ∧ Kj w.heap.size w w' gj3 gp3 5000 dv ko3 kc3 b16.p b16.j) := HK24.out.call fun V h hvb => by
    have := jroll_c v24 h (by have := b15_s.2; omega) HT25.out (fun hv => by have := hvb _ hv; have := hmaxu.out; omega)
    rw [show (jRoll 5000 b15.p b15.j).e = 0 from b16_s.1] at this
    exact this
  clear l1 l2 l4 l5 l6 hne sf2 zf2
  go_wp2_with fail
  refine C25.out.mono ?_
  rintro R v25 ⟨rfl, hk25⟩
  have HK25 := Lib.hid hk25
  clear hk25 C25 HK24
  have HBS : Hid (Below v25.heap.size v25 (v25.alloc (.cells #[.int .u64 3, .int .u64 3] 37))) := below_alloc _ _
  have HNS : Hid (NsAt (v25.alloc (.cells #[.int .u64 3, .int .u64 3] 37)) (some ⟨v25.heap.size, 0, none⟩) [3, 3]) := fun j hj => by
    have hj : j < 2 := hj
    refine ⟨_, _, rfl, fun i v hv => ?_⟩
    rw [(Cells.made v25 37 #[.int .u64 3, .int .u64 3]).cell]
    have hi : i < 1 := by have := (List.getElem?_eq_some_iff.1 hv).1; simpa [gnv] using this
    obtain rfl : i = 0 := by omega
    rcases (show j = 0 ∨ j = 1 by omega) with rfl | rfl
    · rw [← hv]; rfl
    · rw [← hv]; rfl
  have HKs := Lib.hid (HK25.out.new HBS.out)
  have HTs := Lib.hid (tab_below HT.out HKs.out.be)
  have C26 : Hid (Calls Tryz.prog 27 #[.pointer (some ⟨gj3, 0, none⟩), .int .u64 0, .slice (some ⟨v25.heap.size, 0, none⟩) 2 2] (v25.alloc (.cells #[.int .u64 3, .int .u64 3] 37)) fun R w' => R = .returned (.int .i64 4) ∧ Kj w.heap.size w w' gj3 gp3 5000 dv ko3 kc3 b17.p b17.j) := HKs.out.call fun V h hvb => by
    have := jkeep_c 0 [3, 3] (some ⟨v25.heap.size, 0, none⟩) 2 _ h HNS.out (fun x hx => by simp at hx; subst hx; decide) (by decide) (by decide) (by have := b16_s.2; omega) HTs.out
    rw [show (jKeep 5000 b16.p b16.j 0 [3, 3]).e = 4 from b17_s.1] at this
    exact this
  go_wp2_with fail
  refine C26.out.mono ?_
  rintro R v26 ⟨rfl, hk26⟩
  have HK26 := Lib.hid hk26
  clear hk26 C26 HK25 HKs HTs HNS HBS
  have C27 := Lib.hid HK26.out.nums.out.2.2.2.2.2
  go_wp2_with fail
  refine C27.out.mono ?_
  rintro R v27 ⟨so27, sc27, co27, cc27, rfl, hk27⟩
  have HK27 := Lib.hid hk27
  have hf27 := fun W => fld_sg (jMan b17.j) so27 sc27 co27 cc27 W
  rw [b17_s.2.2] at hf27
  clear hk27 C27 HK26
  have HT28 := Lib.hid (tab_below HT.out HK27.out.be)
  have C28 : Hid (Calls Tryz.prog 27 #[.pointer (some ⟨gj3, 0, none⟩), .int .u64 1, .slice none 0 0] v27 fun R w' => R = .returned (.int .i64 0) ∧ Kj w.heap.size w w' gj3 gp3 5000 dv ko3 kc3 b18.p b18.j) := HK27.out.call fun V h hvb => by
    have := jkeep_c 1 [] none 0 v27 h (NsAt.nil _ _) (fun x hx => by cases hx) (by decide) (by decide) (by have := b17_s.2.1; omega) HT28.out
    rw [show (jKeep 5000 b17.p b17.j 1 []).e = 0 from b18_s.1] at this
    exact this
  go_wp2_with fail
  refine C28.out.mono ?_
  rintro R v28 ⟨rfl, hk28⟩
  have HK28 := Lib.hid hk28
  clear hk28 C28 HK27
  have C29 := Lib.hid HK28.out.nums.out.2.2.2.2.2
  go_wp2_with fail
  refine C29.out.mono ?_
  rintro R v29 ⟨so29, sc29, co29, cc29, rfl, hk29⟩
  have HK29 := Lib.hid hk29
  have hf29 := fun W => fld_sg (jMan b18.j) so29 sc29 co29 cc29 W
  rw [b18_s.2.2] at hf29
  clear hk29 C29 HK28
  have C30 := Lib.hid HK29.out.blow
  go_wp2_with fail
  refine C30.out.mono ?_
  rintro R v30 ⟨rfl, hk30⟩
  have HK30 := Lib.hid hk30
  clear hk30 C30 HK29
  have HO19 : Hid (Calls Tryz.prog 15 #[dv, .slice none 0 0] v30 _) := HK30.out.again none [] 0 (fun j hj => by cases hj) (by decide) (O := o19) rfl o19_s.1 HT.out hmaxu.out
  go_wp2_with fail
  refine HO19.out.mono ?_
  rintro R w4 ⟨gj4, gp4, ko4, kc4, co, cc, po, pc, io, ic, rfl, hk4, hp4, hi4, V4, hj4, hv4, _, hio4⟩
  clear HO19 HK30 hp4
  obtain ⟨gf, w5, zf, sf, Hf, qf⟩ := (Loc.nil (Nat.le_refl w4.heap.size)).newA ty_found #[.int .u64 0, .bool false, .slice none 0 0, .int .u64 0, .slice none 0 0, .slice none 0 0] (fcs o19 co cc po pc io ic) rfl rfl rfl
  obtain ⟨S4, hd4, hs4⟩ := hj4.pj.disk
  have HD5 := Lib.hid (show DkS S4 w5 dv 5000 o19.p.E from hd4.new (below_of_grown qf))
  have HS4 := Lib.hid (show ∀ x, S4 x → w.heap.size ≤ x ∧ x < w4.heap.size from fun x hx => ⟨hv4 x (hs4 x hx), hj4.lt x (hs4 x hx)⟩)
  have HC5 := Lib.hid (show Cells w5 gf 49 (fcs o19 co cc po pc io ic) ∧ InAt w5 io o19.x.ah ∧ w4.heap.size ≤ gf ∧ (∀ a, io = some a → o19.x.ah ≠ [] → ¬ S4 a.block) from ⟨Hf.get 0 rfl, hi4.to (below_of_grown qf), Nat.le_of_eq zf, fun a e h0 hs => hio4 a e h0 (hs4 _ hs)⟩)
  have HB5 := Lib.hid (hk4.be.trans ((below_of_grown qf).mono (Nat.le_trans hk4.sz hk4.be.size)))
  have HZ5 := Lib.hid (below_of_grown qf).size
  clear hk4 hi4 hj4 hv4 hio4 hd4 hs4 qf Hf
  obtain ⟨S5, hS5⟩ : ∃ S : Nat → Prop, S = S4 := ⟨_, rfl⟩
  rw [← hS5] at HD5 HS4 HC5
  have HG5 : Hid (¬ S5 gf) := fun h => by have := (HS4.out _ h).2; have := HC5.out.2.2.1; omega
  have HS5 := HS4
  clear hS5
  have HN5 := Lib.hid (jpnew_c (-1) none [] 0 w5 HD5.out (fun j hj => by cases hj) (by decide))
  go_wp2_with fail
  clear sf zf
  refine HN5.out.mono ?_
  rintro R x5a ⟨gp5, ko5, kc5, rfl, hp5, hb5⟩
  have HP5 := Lib.hid hp5
  have HBN5 := Lib.hid hb5
  clear hp5 hb5 HN5
  have HTn5 := Lib.hid (tab_b HT.out hmaxu.out (HB5.out.trans (HBN5.out.mono (Nat.le_trans (Nat.le_refl _) HB5.out.size))))
  have HOx5 : Hid (Calls Tryz.prog 28 #[.pointer (some ⟨gp5, 0, none⟩), .int .u8 0, .int .i64 3] x5a (OpnPost (NwV S5 w5 x5a) x5a gp5 5000 dv ko5 kc5 0 ⟨2, ⟨-1, [], 0, false, o19.p.E⟩, mz, cn0, false⟩)) := open_bad 0 3 x5a HP5.out (by decide) 0
  go_wp2_with fail
  refine HOx5.out.mono ?_
  rintro R x5b (⟨_, rfl, V5, hj5, ht5⟩ | ⟨h0, _⟩)
  rotate_left
  · exact absurd h0 (by decide)
  obtain ⟨gy5, x5c, zy5, sy5, Hy5, qy5⟩ := (Loc.nil (Nat.le_refl x5b.heap.size)).newA ty_found #[.int .u64 0, .bool false, .slice none 0 0, .int .u64 0, .slice none 0 0, .slice none 0 0] fz rfl rfl rfl
  obtain ⟨S6, hd5, hs5⟩ := hj5.disk
  have hnv5 : ∀ x, x < w5.heap.size → ¬ S5 x → ¬ NwV S5 w5 x5a x := fun x h1 h2 h3 => by
    rcases h3 with ⟨h3, _⟩ | ⟨h3, _⟩
    · exact h2 h3
    · omega
  have HD6 := Lib.hid (show DkS S6 x5c dv 5000 o19.p.E from hd5.new (below_of_grown qy5))
  have hsx5 : ∀ x, S6 x → S5 x ∨ w5.heap.size ≤ x := fun x hx => by
    have hz := HBN5.out.size
    rcases ht5.more x (hs5 x hx) with h | h
    · rcases h with ⟨h, _⟩ | ⟨h, _⟩
      · exact .inl h
      · exact .inr h
    · right; omega
  have HS6 := Lib.hid (show ∀ x, S6 x → w.heap.size ≤ x ∧ x < x5c.heap.size from fun x hx => ⟨(hsx5 x hx).elim (fun h => (HS5.out x h).1) (fun h => Nat.le_trans HB5.out.size h), Nat.lt_of_lt_of_le (hj5.lt x (hs5 x hx)) (below_of_grown qy5).size⟩)
  have HC6 := Lib.hid (show Cells x5c gf 49 (fcs o19 co cc po pc io ic) ∧ InAt x5c io o19.x.ah ∧ ¬ S6 gf ∧ (∀ a, io = some a → o19.x.ah ≠ [] → ¬ S6 a.block) from by
    have hlt := HC5.out.1.lt
    have c6 := cells_new HC5.out.1 HBN5.out
    have i6 := HC5.out.2.1.to HBN5.out
    refine ⟨cells_new (Cells.tu c6 ht5.tu (hnv5 _ hlt HG5.out)) (below_of_grown qy5), (i6.tu ht5.tu fun h0 a e => hnv5 _ (HC5.out.2.1.lt h0 a e) (HC5.out.2.2.2 a e h0)).to (below_of_grown qy5), fun h => ?_, fun a e h0 h => ?_⟩
    · rcases hsx5 _ h with h | h
      · exact HG5.out h
      · omega
    · have := HC5.out.2.1.lt h0 a e
      rcases hsx5 _ h with h | h
      · exact HC5.out.2.2.2 a e h0 h
      · omega)
  have HG6 : Hid (¬ S6 gf) := HC6.out.2.2.1
  have HB6 := Lib.hid (show Below w.heap.size w x5c from (HB5.out.trans (HBN5.out.mono HB5.out.size)).trans ((ht5.tu.below (fun x hx hs => by have := HB5.out.size; rcases hs with ⟨h, _⟩ | ⟨h, _⟩; have := (HS5.out x h).1; omega; omega) (Nat.le_trans HB5.out.size HBN5.out.size)).trans ((below_of_grown qy5).mono (Nat.le_trans (Nat.le_trans HB5.out.size HBN5.out.size) ht5.tu.size))))
  clear hj5 ht5 hd5 hs5 hnv5 hsx5 qy5 Hy5 HP5 HOx5 HBN5 HTn5 HD5 HC5 HS5
  have HN6 := Lib.hid (jpnew_c (-1) none [] 0 x5c HD6.out (fun j hj => by cases hj) (by decide))
  go_wp2_with fail
  refine HN6.out.mono ?_
  rintro R x6a ⟨gp6, ko6, kc6, rfl, hp6, hb6⟩
  have HP6 := Lib.hid hp6
  have HBN6 := Lib.hid hb6
  clear hp6 hb6 HN6
  have HTn6 := Lib.hid (tab_b HT.out hmaxu.out (HB6.out.trans (HBN6.out.mono (Nat.le_trans (Nat.le_refl _) HB6.out.size))))
  have HOx6 : Hid (Calls Tryz.prog 28 #[.pointer (some ⟨gp6, 0, none⟩), .int .u8 2, .int .i64 4] x6a (OpnPost (NwV S6 x5c x6a) x6a gp6 5000 dv ko6 kc6 0 ⟨2, ⟨-1, [], 0, false, o19.p.E⟩, mz, cn0, false⟩)) := open_bad 2 4 x6a HP6.out (by decide) 0
  go_wp2_with fail
  refine HOx6.out.mono ?_
  rintro R x6b (⟨_, rfl, V6, hj6, ht6⟩ | ⟨h0, _⟩)
  rotate_left
  · exact absurd h0 (by decide)
  obtain ⟨gy6, x6c, zy6, sy6, Hy6, qy6⟩ := (Loc.nil (Nat.le_refl x6b.heap.size)).newA ty_found #[.int .u64 0, .bool false, .slice none 0 0, .int .u64 0, .slice none 0 0, .slice none 0 0] fz rfl rfl rfl
  obtain ⟨S7, hd6, hs6⟩ := hj6.disk
  have hnv6 : ∀ x, x < x5c.heap.size → ¬ S6 x → ¬ NwV S6 x5c x6a x := fun x h1 h2 h3 => by
    rcases h3 with ⟨h3, _⟩ | ⟨h3, _⟩
    · exact h2 h3
    · omega
  have HD7 := Lib.hid (show DkS S7 x6c dv 5000 o19.p.E from hd6.new (below_of_grown qy6))
  have hsx6 : ∀ x, S7 x → S6 x ∨ x5c.heap.size ≤ x := fun x hx => by
    have hz := HBN6.out.size
    rcases ht6.more x (hs6 x hx) with h | h
    · rcases h with ⟨h, _⟩ | ⟨h, _⟩
      · exact .inl h
      · exact .inr h
    · right; omega
  have HS7 := Lib.hid (show ∀ x, S7 x → w.heap.size ≤ x ∧ x < x6c.heap.size from fun x hx => ⟨(hsx6 x hx).elim (fun h => (HS6.out x h).1) (fun h => Nat.le_trans HB6.out.size h), Nat.lt_of_lt_of_le (hj6.lt x (hs6 x hx)) (below_of_grown qy6).size⟩)
  have HC7 := Lib.hid (show Cells x6c gf 49 (fcs o19 co cc po pc io ic) ∧ InAt x6c io o19.x.ah ∧ ¬ S7 gf ∧ (∀ a, io = some a → o19.x.ah ≠ [] → ¬ S7 a.block) from by
    have hlt := HC6.out.1.lt
    have c6 := cells_new HC6.out.1 HBN6.out
    have i6 := HC6.out.2.1.to HBN6.out
    refine ⟨cells_new (Cells.tu c6 ht6.tu (hnv6 _ hlt HG6.out)) (below_of_grown qy6), (i6.tu ht6.tu fun h0 a e => hnv6 _ (HC6.out.2.1.lt h0 a e) (HC6.out.2.2.2 a e h0)).to (below_of_grown qy6), fun h => ?_, fun a e h0 h => ?_⟩
    · rcases hsx6 _ h with h | h
      · exact HG6.out h
      · omega
    · have := HC6.out.2.1.lt h0 a e
      rcases hsx6 _ h with h | h
      · exact HC6.out.2.2.2 a e h0 h
      · omega)
  have HG7 : Hid (¬ S7 gf) := HC7.out.2.2.1
  have HB7 := Lib.hid (show Below w.heap.size w x6c from (HB6.out.trans (HBN6.out.mono HB6.out.size)).trans ((ht6.tu.below (fun x hx hs => by have := HB6.out.size; rcases hs with ⟨h, _⟩ | ⟨h, _⟩; have := (HS6.out x h).1; omega; omega) (Nat.le_trans HB6.out.size HBN6.out.size)).trans ((below_of_grown qy6).mono (Nat.le_trans (Nat.le_trans HB6.out.size HBN6.out.size) ht6.tu.size))))
  clear hj6 ht6 hd6 hs6 hnv6 hsx6 qy6 Hy6 HP6 HOx6 HBN6 HTn6 HD6 HC6 HS6
  have HN7 := Lib.hid (jpnew_c (-1) none [] 0 x6c HD7.out (fun j hj => by cases hj) (by decide))
  go_wp2_with fail
  refine HN7.out.mono ?_
  rintro R x7a ⟨gp7, ko7, kc7, rfl, hp7, hb7⟩
  have HP7 := Lib.hid hp7
  have HBN7 := Lib.hid hb7
  clear hp7 hb7 HN7
  have HTn7 := Lib.hid (tab_b HT.out hmaxu.out (HB7.out.trans (HBN7.out.mono (Nat.le_trans (Nat.le_refl _) HB7.out.size))))
  have HOx7 : Hid (Calls Tryz.prog 28 #[.pointer (some ⟨gp7, 0, none⟩), .int .u8 1, .int .i64 4] x7a (OpnPost (NwV S7 x6c x7a) x7a gp7 5000 dv ko7 kc7 4 o20)) := open_ok 1 4 x7a HP7.out (by decide) (by decide) (by decide) (by show 0 + 300 < 1000000; decide) HTn7.out (fun hv => by have := hmaxu.out; have := HB7.out.size; rcases hv with ⟨h, _⟩ | ⟨h, _⟩; have := HS7.out _ h; omega; omega)
  go_wp2_with fail
  refine HOx7.out.mono ?_
  rintro R x7b (⟨_, rfl, V7, hj7, ht7⟩ | ⟨h0, _⟩)
  rotate_left
  · exact absurd h0 (by rw [o20_s.1]; decide)
  rw [o20_s.1]
  obtain ⟨gy7, x7c, zy7, sy7, Hy7, qy7⟩ := (Loc.nil (Nat.le_refl x7b.heap.size)).newA ty_found #[.int .u64 0, .bool false, .slice none 0 0, .int .u64 0, .slice none 0 0, .slice none 0 0] fz rfl rfl rfl
  obtain ⟨S8, hd7, hs7⟩ := hj7.disk
  have hnv7 : ∀ x, x < x6c.heap.size → ¬ S7 x → ¬ NwV S7 x6c x7a x := fun x h1 h2 h3 => by
    rcases h3 with ⟨h3, _⟩ | ⟨h3, _⟩
    · exact h2 h3
    · omega
  have HD8 := Lib.hid (show DkS S8 x7c dv 5000 o19.p.E from (o20_s.2 ▸ hd7).new (below_of_grown qy7))
  have hsx7 : ∀ x, S8 x → S7 x ∨ x6c.heap.size ≤ x := fun x hx => by
    have hz := HBN7.out.size
    rcases ht7.more x (hs7 x hx) with h | h
    · rcases h with ⟨h, _⟩ | ⟨h, _⟩
      · exact .inl h
      · exact .inr h
    · right; omega
  have HS8 := Lib.hid (show ∀ x, S8 x → w.heap.size ≤ x ∧ x < x7c.heap.size from fun x hx => ⟨(hsx7 x hx).elim (fun h => (HS7.out x h).1) (fun h => Nat.le_trans HB7.out.size h), Nat.lt_of_lt_of_le (hj7.lt x (hs7 x hx)) (below_of_grown qy7).size⟩)
  have HC8 := Lib.hid (show Cells x7c gf 49 (fcs o19 co cc po pc io ic) ∧ InAt x7c io o19.x.ah ∧ ¬ S8 gf ∧ (∀ a, io = some a → o19.x.ah ≠ [] → ¬ S8 a.block) from by
    have hlt := HC7.out.1.lt
    have c6 := cells_new HC7.out.1 HBN7.out
    have i6 := HC7.out.2.1.to HBN7.out
    refine ⟨cells_new (Cells.tu c6 ht7.tu (hnv7 _ hlt HG7.out)) (below_of_grown qy7), (i6.tu ht7.tu fun h0 a e => hnv7 _ (HC7.out.2.1.lt h0 a e) (HC7.out.2.2.2 a e h0)).to (below_of_grown qy7), fun h => ?_, fun a e h0 h => ?_⟩
    · rcases hsx7 _ h with h | h
      · exact HG7.out h
      · omega
    · have := HC7.out.2.1.lt h0 a e
      rcases hsx7 _ h with h | h
      · exact HC7.out.2.2.2 a e h0 h
      · omega)
  have HG8 : Hid (¬ S8 gf) := HC8.out.2.2.1
  have HB8 := Lib.hid (show Below w.heap.size w x7c from (HB7.out.trans (HBN7.out.mono HB7.out.size)).trans ((ht7.tu.below (fun x hx hs => by have := HB7.out.size; rcases hs with ⟨h, _⟩ | ⟨h, _⟩; have := (HS7.out x h).1; omega; omega) (Nat.le_trans HB7.out.size HBN7.out.size)).trans ((below_of_grown qy7).mono (Nat.le_trans (Nat.le_trans HB7.out.size HBN7.out.size) ht7.tu.size))))
  clear hj7 ht7 hd7 hs7 hnv7 hsx7 qy7 Hy7 HP7 HOx7 HBN7 HTn7 HD7 HC7 HS7
  have HZ8 : Hid (Below x7c.heap.size x7c (x7c.alloc (.cells zjs 69))) := below_alloc _ _
  have HCZ : Hid (Cells (x7c.alloc (.cells zjs 69)) x7c.heap.size 69 zjs) := Cells.made _ _ _
  have N1 := Lib.hid (none_own 0 0)
  have N2 := Lib.hid none_count
  have N3 := Lib.hid none_due
  go_upto_region 20 with fail
  rw [show (#[.pointer none, .int .i64 0, .int .u64 0, .slice none 0 0, .int .u64 0, .int .u64 0, .int .u64 0, .int .u8 0, .slice none 0 0, .slice none 0 0, .int .i64 0, .bool false] : Array Value) = zjs from rfl]
  have HFB := Lib.hid (cells_new HC8.out.1 HZ8.out)
  have HFI := Lib.hid (HC8.out.2.1.to HZ8.out)
  have HBZ := Lib.hid (HB8.out.trans (HZ8.out.mono HB8.out.size))
  clear HC8 HD8 HS8 HG8 HB8
  have hz8 := Lib.hid HZ8.out.size
  clear HZ8
  generalize x7c.alloc (.cells zjs 69) = wz at *
  have l1 := run_ldO ty_u64 HFB.out 0 (v := .int .u64 (o19.m.ep : Int)) rfl
  rw [o19_s.2.1] at l1
  have l2 := run_ldO ty_u64 HFB.out 3 (v := .int .u64 (o19.x.fr : Int)) rfl
  rw [o19_s.2.2.1] at l2
  have l3 := run_ldO ty_prs HFB.out 4 (v := .slice po o19.x.ps.length pc) rfl
  rw [o19_s.2.2.2.1] at l3
  have l4 := run_ldO ty_inps HFB.out 5 (v := .slice io o19.x.ah.length ic) rfl
  rw [o19_s.2.2.2.2] at l4 HFI
  obtain ⟨ib, ik, hio, hic⟩ := HFI.out 0 (by decide)
  subst hio
  have l5 := run_ldC (o := ik) (v := .int .u8 7) ty_input hic
  go_wp2_with fail
  refine (N1.out wz).mono ?_
  rintro R w' ⟨rfl, rfl⟩
  go_wp2_with fail
  refine (zero_roll _ wz HCZ.out).mono ?_
  rintro R wz2 ⟨rfl, hb⟩
  have HB2 := Lib.hid hb
  clear hb
  have HCZ2 := Lib.hid (cells_new HCZ.out HB2.out)
  go_wp2_with fail
  refine (N2.out wz2).mono ?_
  rintro R w' ⟨rfl, rfl⟩
  go_wp2_with fail
  refine (zero_owned _ wz2 HCZ2.out).mono ?_
  rintro R wz3 ⟨rfl, hb⟩
  have HB3 := Lib.hid hb
  clear hb
  have HCZ3 := Lib.hid (cells_new HCZ2.out HB3.out)
  go_wp2_with fail
  refine (N3.out wz3).mono ?_
  rintro R wz4 ⟨rfl, hb⟩
  have HB4 := Lib.hid hb
  clear hb
  have HCZ4 := Lib.hid (cells_new HCZ3.out HB4.out)
  have F4 := fld_sg mz none 0 none 0
  go_wp2_with fail
  refine (zero_man _ wz4 HCZ4.out).mono ?_
  rintro R wz5 ⟨rfl, hb⟩
  have HB5 := Lib.hid hb
  clear hb
  have HBE := Lib.hid (show Below w.heap.size w wz5 from by
    have q1 := HBZ.out.size
    have q2 := HB2.out.size
    have q3 := HB3.out.size
    have q4 := HB4.out.size
    exact (((HBZ.out.trans (HB2.out.mono q1)).trans (HB3.out.mono (by omega))).trans (HB4.out.mono (by omega))).trans (HB5.out.mono (by omega)))
  go_wp2_with fail
  refine (awake_c wz5 (tab_b HT.out hmaxu.out HBE.out)).mono ?_
  rintro R wz6 ⟨rfl, hb⟩
  have HB6e := Lib.hid (show Below w.heap.size w wz6 from HBE.out.trans (hb.mono HBE.out.size))
  clear hb
  go_wp2
  go_ret
  exact ⟨rfl, HB6e.out⟩
end Go.Proofs.YtgeaacabpnepmaaGreatDoor
