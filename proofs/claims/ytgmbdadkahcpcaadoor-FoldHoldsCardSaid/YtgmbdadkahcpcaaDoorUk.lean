/- The program's frame: Step: contract. -/
import Derived.Test.YtgmbdadkahcpcaaDoorUj
import Derived.Test.YtgmbdadkahcpcaaDoorAd
namespace Go.Proofs.YtgmbdadkahcpcaaDoor
open Go.RowKit
set_option linter.unusedVariables false
set_option linter.unusedSimpArgs false
set_option maxRecDepth 20000

/-- P9.1: what Step answers. -/
def stp (s : St) (i j : Nat) : St := if s.good = true ∧ i < 64 ∧ j < 64 then frame src s (inp i) (inp j) else s
theorem Loc.toB {B B1 : Nat} {w0 w w' : World} {L : List (Nat × TypeId × Array Value)} (h : Loc B w0 w L) (hb : Below B1 w w') (hB : B ≤ B1) (hl : ∀ e ∈ L, e.1 < B1) : Loc B w0 w' L :=
  ⟨h.hb, h.be.trans (hb.mono hB), h.ge, h.nd, fun e he => (h.cs e he).below hb (hl e he)⟩
theorem shr_of {B : Nat} {w : World} {bs : List Nat} {ao : Option Addr} {n cap : Nat} {l : List Sh} (ho : w.ownsRow B 66 6 (.slice ao n cap) n (Hall l)) (hl : l.length = n) (hn : ao = none → cap = 0) (hb : ∀ b ∈ bs, b < B) (hw : B ≤ w.heap.size) : Shr B w bs ao n cap l :=
  ⟨ho, hl, fun b hbb e => (by have := (ho.lt b e).1; have := hb b hbb; omega), fun b hbb => Nat.lt_of_lt_of_le (hb b hbb) hw, hn⟩
/-- Blocks below the row's base are none of its. -/
theorem Shr.apart {B : Nat} {w : World} {bs bs' : List Nat} {ao : Option Addr} {n cap : Nat} {l : List Sh} (h : Shr B w bs ao n cap l) (hb : ∀ b ∈ bs', b < B) (hw : B ≤ w.heap.size) : Shr B w bs' ao n cap l := shr_of h.own h.len h.nil hb hw
theorem back_says (r : Src) (s : St) (k : Nat) : (back r s k).ss = s.ss := by
  unfold back
  split
  · rfl
  · exact setPl_ss s k _
/-- Both steered, so far. -/
def one1 (s : St) (a b : Inp) (k : Nat) : St := { s with p := if 0 < k then one s.p a else s.p, q := if 1 < k then one s.q b else s.q }
theorem three_at (s : St) : ∃ P Q, three s = { s with p := P, q := Q } ∧ (if OvP (goP s.p) (goP s.q) then pps (haltP s.p) (haltP s.q) else pps (goP s.p) (goP s.q)) = pps P Q := by
  unfold three
  by_cases h : OvP (goP s.p) (goP s.q)
  · rw [if_pos h, if_pos h]; exact ⟨_, _, rfl, rfl⟩
  · rw [if_neg h, if_neg h]; exact ⟨_, _, rfl, rfl⟩
theorem fr_next (n : Nat) : IntKind.u64.wrap ((n : Int) + 1) = (((n + 1) % 18446744073709551616 : Nat) : Int) := by
  have : ((n : Int) + 1) = ((n + 1 : Nat) : Int) := rfl
  rw [this]; exact R.wrap_u64 (n + 1)
theorem in32_x {p : Pl} (h : p.ok) : G.in32 p.x ∧ G.in32 p.y := by have h1 := h.x; have h2 := h.y; unfold G.in32; omega
theorem sh_fit {x : Sh} (h : x.ok) : x.fit := by
  obtain ⟨a, b, c, d, e, f⟩ := h
  exact ⟨⟨by omega, by omega⟩, ⟨by omega, by omega⟩, ⟨by omega, by omega⟩, ⟨by omega, by omega⟩, by omega, by omega⟩
theorem sv_agg (s : St) (ao : Option Addr) (cap : Nat) : sv s ao cap = .agg (stc s ao cap) := rfl
/-- Both fired, so far. -/
def fir (s : St) (a b : Inp) (k : Nat) : St := if k = 0 then s else if k = 1 then fire s 0 a.f else fire (fire s 0 a.f) 1 b.f
/-- Both brought back, so far. -/
def bck (s : St) (k : Nat) : St := if k = 0 then s else if k = 1 then back src s 0 else back src (back src s 0) 1
theorem back_sd (s : St) (k : Nat) (h : s.sd < 18446744073709551616) : (back src s k).sd < 18446744073709551616 := by
  unfold back
  split
  · exact h
  · exact skp_lt _ _
attribute [local go_sem ↓] ld_i32 ld_u8 ld_u64 ld_input ld_player ld_players ld_state ld_shots st_i32 st_u8 st_u64 st_player st_players st_state st_shots
set_option maxHeartbeats 4000000 in
theorem step_c (s : St) (ao : Option Addr) (cap i j : Nat) (w : World) (hS : Shs w ao s.ss) (hn : ao = none → cap = 0) (hl : s.ss.length ≤ 1000000) (hf : s.fit) (hi : i < 256) (hj : j < 256) (hT : Tab w) (hF : Fac w) :
    Calls Tryd.prog 27 #[sv s ao cap, .agg #[.int .u8 (i : Int), .int .u8 (j : Int)]] w (StPost w.heap.size w (stp s i j)) := by
  have HS := Lib.hid hS
  have HN := Lib.hid hn
  have HT := Lib.hid hT
  have HF := Lib.hid hF
  have HFT := Lib.hid hf
  have HIJ := Lib.hid (show i < 256 ∧ j < 256 from ⟨hi, hj⟩)
  have H0 := Lib.hid (Loc.three w 30 47 30 (stc s ao cap) #[.int .u8 (i : Int), .int .u8 (j : Int)] zsc)
  obtain ⟨Q, hQ⟩ : ∃ Q : Ending → World → Prop, Q = StPost w.heap.size w (stp s i j) := ⟨_, rfl⟩
  rw [← hQ]
  have HQ : Hid (∀ E w', StPost w.heap.size w (stp s i j) E w' → Q E w') := fun E w' h => by rw [hQ]; exact h
  have HSZ : Hid ((((w.alloc (.cells (stc s ao cap) 30)).alloc (.cells #[.int .u8 (i : Int), .int .u8 (j : Int)] 47)).alloc (.cells zsc 30)).heap.size = w.heap.size + 3) := by show _ = _; simp
  clear hQ hS hn hT hF hf hi hj
  go_enter Tryd.func27, Tryd.ntmps27
  go_upto_region 1 with fail
  generalize ((w.alloc (.cells (stc s ao cap) 30)).alloc (.cells #[.int .u8 (i : Int), .int .u8 (j : Int)] 47)).alloc (.cells zsc 30) = wa at *
  have la1 := H0.out.ldA ty_state 0 rfl 0 (vs := (stc s ao cap)) rfl (Nat.le_of_ble_eq_true rfl)
  go_wp2_with fail
  refine (copy_c s ao cap wa (Shs_grown HS.out (grown_of_below (r := none) H0.out.be) (by simp)) HN.out hl).mono ?_
  rintro E w1 ⟨ao1, cap1, rfl, hown, hn1, hg1⟩
  clear la1
  have HR1 : Hid (Shr (w.heap.size + 3) w1 [w.heap.size, w.heap.size + 1, w.heap.size + 2] ao1 s.ss.length cap1 s.ss) := shr_of (by rw [← HSZ.out]; exact hown) rfl hn1 (by simp) (by have := hg1.size; rw [HSZ.out] at this; exact this)
  have HB1 := Lib.hid (below_of_grown hg1)
  clear hown hn1 hg1
  have Ha2 := H0.out.to HB1.out
  obtain ⟨wa4, sa5, Ha6, qa3⟩ := Ha2.stA ty_state 0 rfl 0 (stc s ao1 cap1) (cs' := stc s ao1 cap1) rfl (L' := [(w.heap.size, 30, stc s ao1 cap1), (w.heap.size + 1, 47, #[.int .u8 (i : Int), .int .u8 (j : Int)]), (w.heap.size + 2, 30, zsc)]) rfl (Nat.le_of_ble_eq_true rfl) rfl rfl
  have Sa7 := Lib.hid (HR1.out.turn (by simp) qa3)
  clear qa3 HR1
  go_upto_region 2 with fail
  clear HB1 H0 HS HN
  clear sa5
  obtain ⟨b, hb⟩ : ∃ b, b = decide (s.good = true ∧ i < 64 ∧ j < 64) := ⟨_, rfl⟩
  have HB := Lib.hid hb
  clear hb
  have HFw : Hid (Fac wa4) := fac_below HF.out Ha6.be HF.out.1
  have HTw : Hid (Tab wa4) := tab_below HT.out Ha6.be HT.out.1
  have HSw : Hid (Shs wa4 ao1 s.ss) := Sa7.out.shs HFT.out.2.2.2.2.1
  go_cut [24] (fun s24 wx => s24 = .bool (!b) ∧ Hid (wa4.grownBy wx none))
  case first =>
    have la8 := Ha6.ldA ty_state 0 rfl 0 (vs := (stc s ao1 cap1)) rfl (Nat.le_of_ble_eq_true rfl)
    have hck : chk s = if s.good = true then 0 else 4 := rfl
    have CC := Lib.hid (check_c s ao1 cap1 wa4 HSw.out HFT.out HTw.out)
    cases hgd : s.good
    · rw [hgd] at hck
      rw [hck] at CC
      clear hck
      have hbf : b = false := by rw [HB.out]; exact decide_eq_false (fun h => by rw [hgd] at h; cases h.1)
      subst hbf
      go_wp2_with fail
      refine CC.out.mono ?_
      rintro E w2 ⟨rfl, hb2⟩
      go_wp2_with fail
      all_goals go_meet
      all_goals exact ⟨rfl, hb2⟩
    · rw [hgd] at hck
      rw [hck] at CC
      clear hck
      have hcz : (if true = true then (0 : Int) else 4) = 0 := rfl
      rw [hcz] at CC
      clear hcz
      go_wp2_with fail
      refine CC.out.mono ?_
      rintro E w2 ⟨rfl, hb2⟩
      clear CC
      clear la8
      have Ha9 := Ha6.to (below_of_grown hb2)
      have la10 := Ha9.ldO ty_input 1 rfl 0 (v := .int .u8 (i : Int)) rfl
      have la11 := Ha9.ldO ty_input 1 rfl 1 (v := .int .u8 (j : Int)) rfl
      have L0 := Lib.hid (I.legal_c i w2)
      have L1 := Lib.hid (I.legal_c j w2)
      by_cases h0 : i < 64
      · have e0 : decide (i < 64) = true := decide_eq_true h0
        rw [e0] at L0
        clear e0
        have h0' := Lib.hid h0
        clear h0
        go_wp2_with fail
        refine L0.out.mono ?_
        rintro E w3 ⟨rfl, rfl⟩
        by_cases h1 : j < 64
        · have e0 : decide (j < 64) = true := decide_eq_true h1
          rw [e0] at L1
          clear e0
          have hbt : b = true := by rw [HB.out]; exact decide_eq_true ⟨hgd, h0'.out, h1⟩
          subst hbt
          clear h1
          go_wp2_with fail
          refine L1.out.mono ?_
          rintro E w4 ⟨rfl, rfl⟩
          go_wp2_with fail
          all_goals go_meet
          all_goals exact ⟨rfl, hb2⟩
        · have e0 : decide (j < 64) = false := decide_eq_false h1
          rw [e0] at L1
          clear e0
          have hbt : b = false := by rw [HB.out]; exact decide_eq_false (fun h => h1 h.2.2)
          subst hbt
          clear h1
          go_wp2_with fail
          refine L1.out.mono ?_
          rintro E w4 ⟨rfl, rfl⟩
          go_wp2_with fail
          all_goals go_meet
          all_goals exact ⟨rfl, hb2⟩
      · have e0 : decide (i < 64) = false := decide_eq_false h0
        rw [e0] at L0
        clear e0
        have hbt : b = false := by rw [HB.out]; exact decide_eq_false (fun h => h0 h.2.1)
        subst hbt
        clear h0
        go_wp2_with fail
        refine L0.out.mono ?_
        rintro E w3 ⟨rfl, rfl⟩
        go_wp2_with fail
        all_goals go_meet
        all_goals exact ⟨rfl, hb2⟩
  case rest =>
  obtain ⟨rfl, HG2⟩ := hcut
  clear HSw HTw
  have Ha8 := Ha6.to (below_of_grown HG2.out)
  have Sa9 := Lib.hid (Sa7.out.to (below_of_grown HG2.out))
  clear Sa7
  clear HG2
  cases b
  · have hs2 : stp s i j = s := if_neg (of_decide_eq_false HB.out.symm)
    rw [hs2] at HQ
    clear hs2
    have la10 := Ha8.ldA ty_state 0 rfl 0 (vs := (stc s ao1 cap1)) rfl (Nat.le_of_ble_eq_true rfl)
    obtain ⟨wa12, sa13, Ha14, qa11⟩ := Ha8.stA ty_state 2 rfl 0 (stc s ao1 cap1) (cs' := stc s ao1 cap1) rfl (L' := [(w.heap.size, 30, #[.int .u64 (s.fr : Int), .int .u64 (s.sd : Int), .int .i32 s.p.x, .int .i32 s.p.y, .int .i32 s.p.vx, .int .i32 s.p.vy, .int .u8 (s.p.h : Int), .int .u8 (s.p.c : Int), .int .u8 (s.p.f : Int), .int .i32 s.q.x, .int .i32 s.q.y, .int .i32 s.q.vx, .int .i32 s.q.vy, .int .u8 (s.q.h : Int), .int .u8 (s.q.c : Int), .int .u8 (s.q.f : Int), .slice ao1 s.ss.length cap1, .int .u16 (s.s0 : Int), .int .u16 (s.s1 : Int)]), (w.heap.size + 1, 47, #[.int .u8 (i : Int), .int .u8 (j : Int)]), (w.heap.size + 2, 30, stc s ao1 cap1)]) rfl (Nat.le_of_ble_eq_true rfl) rfl rfl
    have Sa15 := Lib.hid (Sa9.out.turn (by simp) qa11)
    clear qa11 Sa9
    go_wp2
    refine bodyPost_ret (v := .agg (stc s ao1 cap1)) (ret_struct Tryd.underlying30 ty_state _ 4 _ Tryd.results27 (Ha14.get 2 rfl) rfl rfl) rfl ?_
    exact HQ.out _ _ ⟨ao1, cap1, rfl, (Sa15.out.low (by omega)).less (by simp), Ha14.be⟩
  · have hd := of_decide_eq_true HB.out.symm
    have hs2 : stp s i j = frame src s (inp i) (inp j) := if_pos hd
    rw [hs2] at HQ
    clear hs2 HB
    obtain ⟨hok, hph, hqh⟩ := st_ok_of hd.1 HFT.out
    have HOK := Lib.hid hok
    have HIA := Lib.hid hd.2
    clear hd hok hph hqh
    obtain ⟨z0, hz0⟩ : ∃ z, z = inp i := ⟨_, rfl⟩
    obtain ⟨z1, hz1⟩ : ∃ z, z = inp j := ⟨_, rfl⟩
    rw [← hz0, ← hz1] at HQ
    have HZ0 := Lib.hid hz0
    have HZ1 := Lib.hid hz1
    clear hz0 hz1
    rw [show (!true) = false from rfl]
    go_wp2
    go_loopw [26] (fun v wr => ∃ k : Nat, k ≤ 2 ∧ v = .int .i64 k ∧ Hid (Loc w.heap.size w wr [(w.heap.size, 30, stc (one1 s z0 z1 k) ao1 cap1), (w.heap.size + 1, 47, #[.int .u8 (i : Int), .int .u8 (j : Int)]), (w.heap.size + 2, 30, zsc)]) ∧ Hid (Shr (w.heap.size + 3) wr [w.heap.size, w.heap.size + 1, w.heap.size + 2] ao1 s.ss.length cap1 s.ss)) (fun v _ => 2 - (intOf v).toNat)
    case atStart => exact ⟨0, by omega, rfl, Ha8, Sa9⟩
    case round =>
      clear Ha8 Sa9 HFw
      obtain ⟨k, hk, rfl, HR, HSR⟩ := hrel
      match k, hk with
      | 0, _ =>
        rw [show ((0 : Nat) : Int) = 0 from rfl]
        have CS : Hid (∀ W, Below wr.heap.size wr W → Calls Tryd.prog 42 #[.agg (pcs s.p), .int .u8 (i : Int)] W fun E w' => E = .returned (.agg (pcs (one s.p z0))) ∧ Below W.heap.size W w') := fun W hW => by
          have := steered_c s.p i W HIJ.out.1 HOK.out.p (fac_below HF.out (HR.out.to hW).be HF.out.1)
          rw [← HZ0.out] at this
          exact this
        go_upto_region 7 with fail
        have ar01 := HR.out.onA ty_player 0 rfl 2 (vs := (pcs s.p)) rfl (Nat.le_of_ble_eq_true rfl)
        have ar02 := HR.out.onO ty_input 1 rfl 0 (v := .int .u8 (i : Int)) rfl
        have o0 := G.On.drew wr.heap.size wr
        refine wp_region_till (S := fun w' => G.On wr.heap.size wr w') (by kernel_rfl) ?_
        refine wpTill_take (i := 0) (v := ?va00) rfl (by kernel_rfl) (fun _ _ _ h => h) (Or.inl ⟨by rfl, ?hya00⟩) o0 ?resta00
        case hya00 => (intro W hW; (try dsimp only at hW); go_simp; try with_reducible rfl)
        simp only [Act.put, List.setIfInBounds_toArray, List.set_cons_zero, List.set_cons_succ]
        refine wpTill_take (i := 1) (v := ?va01) rfl (by kernel_rfl) (fun _ _ _ h => h) (Or.inl ⟨by rfl, ?hya01⟩) o0 ?resta01
        case hya01 => (intro W hW; (try dsimp only at hW); go_simp; try with_reducible rfl)
        simp only [Act.put, List.setIfInBounds_toArray, List.set_cons_zero, List.set_cons_succ]
        refine wpTill_take (i := 2) (v := ?va02) rfl (by kernel_rfl) (fun _ _ _ h => h) (Or.inl ⟨by rfl, ?hya02⟩) o0 ?resta02
        case hya02 => (intro W hW; (try dsimp only at hW); go_simp; try with_reducible rfl)
        simp only [Act.put, List.setIfInBounds_toArray, List.set_cons_zero, List.set_cons_succ]
        refine wpTill_take (i := 3) (v := ?va03) rfl (by kernel_rfl) (fun _ _ _ h => h) (Or.inl ⟨by rfl, ?hya03⟩) o0 ?resta03
        case hya03 => (intro W hW; (try dsimp only at hW); go_simp; try with_reducible rfl)
        simp only [Act.put, List.setIfInBounds_toArray, List.set_cons_zero, List.set_cons_succ]
        refine wpTill_take (i := 4) (v := ?va04) rfl (by kernel_rfl) (fun _ _ _ h => h) (Or.inl ⟨by rfl, ?hya04⟩) o0 ?resta04
        case hya04 => (intro W hW; (try dsimp only at hW); go_simp; try with_reducible rfl)
        simp only [Act.put, List.setIfInBounds_toArray, List.set_cons_zero, List.set_cons_succ]
        refine wpTill_take (i := 5) (v := ?va05) rfl (by kernel_rfl) (fun _ _ _ h => h) (Or.inl ⟨by rfl, ?hya05⟩) o0 ?resta05
        case hya05 => (intro W hW; (try dsimp only at hW); go_simp; try with_reducible rfl)
        simp only [Act.put, List.setIfInBounds_toArray, List.set_cons_zero, List.set_cons_succ]
        refine wpTill_take (i := 6) (v := ?va06) rfl (by kernel_rfl) (fun _ _ _ h => h) (Or.inl ⟨by rfl, ?hya06⟩) o0 ?resta06
        case hya06 => (intro W hW; (try dsimp only at hW); go_simp; try with_reducible rfl)
        simp only [Act.put, List.setIfInBounds_toArray, List.set_cons_zero, List.set_cons_succ]
        refine wpTill_take (i := 7) (v := ?va07) rfl (by kernel_rfl) (fun _ _ _ h => h) (Or.inl ⟨by rfl, ?hya07⟩) o0 ?resta07
        case hya07 => (intro W hW; (try dsimp only at hW); go_simp; try with_reducible rfl)
        simp only [Act.put, List.setIfInBounds_toArray, List.set_cons_zero, List.set_cons_succ]
        refine wpTill_take (i := 9) (v := ?va09) rfl (by kernel_rfl) (fun _ _ _ h => h) (Or.inl ⟨by rfl, ?hya09⟩) o0 ?resta09
        case hya09 => (intro W hW; (try dsimp only at hW); go_simp; try with_reducible rfl)
        simp only [Act.put, List.setIfInBounds_toArray, List.set_cons_zero, List.set_cons_succ]
        refine wpTill_run (i := 8) (by kernel_rfl) rfl o0 (fun K hK => ?_)
        go_simp
        go_at_call 42
        refine (CS.out _ o0).mono ?_
        rintro E w4 ⟨rfl, hb4⟩
        have o4 := G.on_step (wd := wr) o0 hb4
        refine hK _ _ ?_
        clear hK K
        refine wpTill_run (i := 10) (by kernel_rfl) rfl o4 (fun K hK => ?_)
        go_simp
        refine hK _ _ ?_
        clear hK K
        refine wpTill_run (i := 11) (by kernel_rfl) rfl o4 (fun K hK => ?_)
        have Hr03 := HR.out.to o4
        have Sr04 := Lib.hid (HSR.out.to o4)
        clear HSR
        obtain ⟨wr06, sr07, Hr08, qr05⟩ := Hr03.stA ty_player 0 rfl 2 (pcs (one s.p z0)) (cs' := stc (one1 s z0 z1 1) ao1 cap1) rfl (L' := [(w.heap.size, 30, stc (one1 s z0 z1 1) ao1 cap1), (w.heap.size + 1, 47, #[.int .u8 (i : Int), .int .u8 (j : Int)]), (w.heap.size + 2, 30, zsc)]) rfl (Nat.le_of_ble_eq_true rfl) rfl rfl
        have Sr09 := Lib.hid (Sr04.out.turn (by simp) qr05)
        clear qr05 Sr04
        go_simp
        refine hK _ _ ?_
        clear hK K
        refine wpTill_done (by kernel_rfl) ?_
        go_wp2
        go_roundw
        case rel => exact ⟨1, by omega, by go_num, Hr08, Sr09⟩
        case measure => simp [intOf]
      | 1, _ =>
        rw [show ((1 : Nat) : Int) = 1 from rfl]
        have CS : Hid (∀ W, Below wr.heap.size wr W → Calls Tryd.prog 42 #[.agg (pcs s.q), .int .u8 (j : Int)] W fun E w' => E = .returned (.agg (pcs (one s.q z1))) ∧ Below W.heap.size W w') := fun W hW => by
          have := steered_c s.q j W HIJ.out.2 HOK.out.q (fac_below HF.out (HR.out.to hW).be HF.out.1)
          rw [← HZ1.out] at this
          exact this
        go_upto_region 7 with fail
        have ar11 := HR.out.onA ty_player 0 rfl 9 (vs := (pcs s.q)) rfl (Nat.le_of_ble_eq_true rfl)
        have ar12 := HR.out.onO ty_input 1 rfl 1 (v := .int .u8 (j : Int)) rfl
        have o0 := G.On.drew wr.heap.size wr
        refine wp_region_till (S := fun w' => G.On wr.heap.size wr w') (by kernel_rfl) ?_
        refine wpTill_take (i := 0) (v := ?va10) rfl (by kernel_rfl) (fun _ _ _ h => h) (Or.inl ⟨by rfl, ?hya10⟩) o0 ?resta10
        case hya10 => (intro W hW; (try dsimp only at hW); go_simp; try with_reducible rfl)
        simp only [Act.put, List.setIfInBounds_toArray, List.set_cons_zero, List.set_cons_succ]
        refine wpTill_take (i := 1) (v := ?va11) rfl (by kernel_rfl) (fun _ _ _ h => h) (Or.inl ⟨by rfl, ?hya11⟩) o0 ?resta11
        case hya11 => (intro W hW; (try dsimp only at hW); go_simp; try with_reducible rfl)
        simp only [Act.put, List.setIfInBounds_toArray, List.set_cons_zero, List.set_cons_succ]
        refine wpTill_take (i := 2) (v := ?va12) rfl (by kernel_rfl) (fun _ _ _ h => h) (Or.inl ⟨by rfl, ?hya12⟩) o0 ?resta12
        case hya12 => (intro W hW; (try dsimp only at hW); go_simp; try with_reducible rfl)
        simp only [Act.put, List.setIfInBounds_toArray, List.set_cons_zero, List.set_cons_succ]
        refine wpTill_take (i := 3) (v := ?va13) rfl (by kernel_rfl) (fun _ _ _ h => h) (Or.inl ⟨by rfl, ?hya13⟩) o0 ?resta13
        case hya13 => (intro W hW; (try dsimp only at hW); go_simp; try with_reducible rfl)
        simp only [Act.put, List.setIfInBounds_toArray, List.set_cons_zero, List.set_cons_succ]
        refine wpTill_take (i := 4) (v := ?va14) rfl (by kernel_rfl) (fun _ _ _ h => h) (Or.inl ⟨by rfl, ?hya14⟩) o0 ?resta14
        case hya14 => (intro W hW; (try dsimp only at hW); go_simp; try with_reducible rfl)
        simp only [Act.put, List.setIfInBounds_toArray, List.set_cons_zero, List.set_cons_succ]
        refine wpTill_take (i := 5) (v := ?va15) rfl (by kernel_rfl) (fun _ _ _ h => h) (Or.inl ⟨by rfl, ?hya15⟩) o0 ?resta15
        case hya15 => (intro W hW; (try dsimp only at hW); go_simp; try with_reducible rfl)
        simp only [Act.put, List.setIfInBounds_toArray, List.set_cons_zero, List.set_cons_succ]
        refine wpTill_take (i := 6) (v := ?va16) rfl (by kernel_rfl) (fun _ _ _ h => h) (Or.inl ⟨by rfl, ?hya16⟩) o0 ?resta16
        case hya16 => (intro W hW; (try dsimp only at hW); go_simp; try with_reducible rfl)
        simp only [Act.put, List.setIfInBounds_toArray, List.set_cons_zero, List.set_cons_succ]
        refine wpTill_take (i := 7) (v := ?va17) rfl (by kernel_rfl) (fun _ _ _ h => h) (Or.inl ⟨by rfl, ?hya17⟩) o0 ?resta17
        case hya17 => (intro W hW; (try dsimp only at hW); go_simp; try with_reducible rfl)
        simp only [Act.put, List.setIfInBounds_toArray, List.set_cons_zero, List.set_cons_succ]
        refine wpTill_take (i := 9) (v := ?va19) rfl (by kernel_rfl) (fun _ _ _ h => h) (Or.inl ⟨by rfl, ?hya19⟩) o0 ?resta19
        case hya19 => (intro W hW; (try dsimp only at hW); go_simp; try with_reducible rfl)
        simp only [Act.put, List.setIfInBounds_toArray, List.set_cons_zero, List.set_cons_succ]
        refine wpTill_run (i := 8) (by kernel_rfl) rfl o0 (fun K hK => ?_)
        go_simp
        go_at_call 42
        refine (CS.out _ o0).mono ?_
        rintro E w4 ⟨rfl, hb4⟩
        have o4 := G.on_step (wd := wr) o0 hb4
        refine hK _ _ ?_
        clear hK K
        refine wpTill_run (i := 10) (by kernel_rfl) rfl o4 (fun K hK => ?_)
        go_simp
        refine hK _ _ ?_
        clear hK K
        refine wpTill_run (i := 11) (by kernel_rfl) rfl o4 (fun K hK => ?_)
        have Hr13 := HR.out.to o4
        have Sr14 := Lib.hid (HSR.out.to o4)
        clear HSR
        obtain ⟨wr16, sr17, Hr18, qr15⟩ := Hr13.stA ty_player 0 rfl 9 (pcs (one s.q z1)) (cs' := stc (one1 s z0 z1 2) ao1 cap1) rfl (L' := [(w.heap.size, 30, stc (one1 s z0 z1 2) ao1 cap1), (w.heap.size + 1, 47, #[.int .u8 (i : Int), .int .u8 (j : Int)]), (w.heap.size + 2, 30, zsc)]) rfl (Nat.le_of_ble_eq_true rfl) rfl rfl
        have Sr19 := Lib.hid (Sr14.out.turn (by simp) qr15)
        clear qr15 Sr14
        go_simp
        refine hK _ _ ?_
        clear hK K
        refine wpTill_done (by kernel_rfl) ?_
        go_wp2
        go_roundw
        case rel => exact ⟨2, by omega, by go_num, Hr18, Sr19⟩
        case measure => simp [intOf]
      | 2, _ =>
        rw [show ((2 : Nat) : Int) = 2 from rfl]
        obtain ⟨X1, hX1⟩ : ∃ X, X = one1 s z0 z1 2 := ⟨_, rfl⟩
        have hs1 : X1.ss = s.ss := by rw [hX1]; rfl
        rw [← hX1] at HR
        have HSR1 : Hid (Shr (w.heap.size + 3) wr [w.heap.size, w.heap.size + 1, w.heap.size + 2] ao1 X1.ss.length cap1 X1.ss) := by show Shr _ _ _ _ _ _ _; rw [hs1]; exact HSR.out
        have HO1 : Hid X1.ok := by show X1.ok; rw [hX1]; exact ⟨one_ok HOK.out.p z0, one_ok HOK.out.q z1, HOK.out.n, HOK.out.ss, HOK.out.s0, HOK.out.s1⟩
        have HX1 := Lib.hid hX1
        clear hX1 hs1 HSR
        go_wp2
        go_loopw [41] (fun v wr => ∃ (k : Nat) (X : St) (ao2 : Option Addr) (cap2 : Nat), k ≤ 2 ∧ v = .int .i64 k ∧ Hid (X = fir X1 z0 z1 k ∧ X.ok) ∧ Hid (Loc w.heap.size w wr [(w.heap.size, 30, stc X ao2 cap2), (w.heap.size + 1, 47, #[.int .u8 (i : Int), .int .u8 (j : Int)]), (w.heap.size + 2, 30, zsc)]) ∧ Hid (Shr (w.heap.size + 3) wr [w.heap.size, w.heap.size + 1, w.heap.size + 2] ao2 X.ss.length cap2 X.ss)) (fun v _ => 2 - (intOf v).toNat)
        case atStart => exact ⟨0, X1, ao1, cap1, by omega, rfl, ⟨rfl, HO1.out⟩, HR.out, HSR1.out⟩
        case round =>
          clear HR HSR1
          obtain ⟨k, X, ao2, cap2, hk, rfl, HX, HR, HSR⟩ := hrel
          match k, hk with
          | 0, _ =>
            rw [show ((0 : Nat) : Int) = 0 from rfl]
            have CF : Hid (Calls Tryd.prog 43 #[.agg (stc X ao2 cap2), .int .i64 0, .int .u8 (i : Int)] wr.drew (StPost (w.heap.size + 3) wr.drew (fire X 0 z0.f))) := by
              have := fired0_c X ao2 X.ss.length cap2 (w.heap.size + 3) i wr.drew HIJ.out.1 HX.out.2.p (fac_below HF.out HR.out.drew.be HF.out.1) (by have := HSR.out.lo (w.heap.size + 2) (by simp); exact this) (by have := HF.out.1; omega) ((HSR.out.to (Below.refl _ wr).drew).less (by simp)) (by have := HX.out.2.n; omega)
              rw [← HZ0.out] at this
              exact this
            have hlo : w.heap.size + 3 ≤ wr.heap.size := HSR.out.lo (w.heap.size + 2) (by simp)
            have HB1 : ∀ W, G.On (w.heap.size + 3) wr W → Loc w.heap.size w W [(w.heap.size, 30, #[.int .u64 (X.fr : Int), .int .u64 (X.sd : Int), .int .i32 X.p.x, .int .i32 X.p.y, .int .i32 X.p.vx, .int .i32 X.p.vy, .int .u8 (X.p.h : Int), .int .u8 (X.p.c : Int), .int .u8 (X.p.f : Int), .int .i32 X.q.x, .int .i32 X.q.y, .int .i32 X.q.vx, .int .i32 X.q.vy, .int .u8 (X.q.h : Int), .int .u8 (X.q.c : Int), .int .u8 (X.q.f : Int), .slice ao2 X.ss.length cap2, .int .u16 (X.s0 : Int), .int .u16 (X.s1 : Int)]), (w.heap.size + 1, 47, #[.int .u8 (i : Int), .int .u8 (j : Int)]), (w.heap.size + 2, 30, zsc)] := fun W hW => HR.out.toB hW (by omega) (by simp)
            have a1 := fun W hW => (HB1 W hW).ldA ty_state 0 rfl 0 (vs := stc X ao2 cap2) rfl (Nat.le_of_ble_eq_true rfl)
            have a2 := fun W hW => (HB1 W hW).ldO ty_input 1 rfl 0 (v := .int .u8 (i : Int)) rfl
            have HBB := Lib.hid HB1
            clear HB1
            obtain ⟨X2, hX2⟩ : ∃ Y, Y = fire X 0 z0.f := ⟨_, rfl⟩
            rw [← hX2] at CF
            have HX2 := Lib.hid hX2
            clear hX2
            go_upto_region 12 with fail
            have o0 := G.On.drew (w.heap.size + 3) wr
            refine wp_region_till (S := fun w' => G.On (w.heap.size + 3) wr w') (by kernel_rfl) ?_
            refine wpTill_take (i := 0) (v := ?vb00) rfl (by kernel_rfl) (fun _ _ _ h => h) (Or.inl ⟨by rfl, ?hyb00⟩) o0 ?restb00
            case hyb00 => (intro W hW; (try dsimp only at hW); go_simp; try with_reducible rfl)
            simp only [Act.put, List.setIfInBounds_toArray, List.set_cons_zero, List.set_cons_succ]
            refine wpTill_take (i := 1) (v := ?vb01) rfl (by kernel_rfl) (fun _ _ _ h => h) (Or.inl ⟨by rfl, ?hyb01⟩) o0 ?restb01
            case hyb01 => (intro W hW; (try dsimp only at hW); go_simp; try with_reducible rfl)
            simp only [Act.put, List.setIfInBounds_toArray, List.set_cons_zero, List.set_cons_succ]
            refine wpTill_take (i := 2) (v := ?vb02) rfl (by kernel_rfl) (fun _ _ _ h => h) (Or.inl ⟨by rfl, ?hyb02⟩) o0 ?restb02
            case hyb02 => (intro W hW; (try dsimp only at hW); go_simp; try with_reducible rfl)
            simp only [Act.put, List.setIfInBounds_toArray, List.set_cons_zero, List.set_cons_succ]
            refine wpTill_take (i := 3) (v := ?vb03) rfl (by kernel_rfl) (fun _ _ _ h => h) (Or.inl ⟨by rfl, ?hyb03⟩) o0 ?restb03
            case hyb03 => (intro W hW; (try dsimp only at hW); go_simp; try with_reducible rfl)
            simp only [Act.put, List.setIfInBounds_toArray, List.set_cons_zero, List.set_cons_succ]
            refine wpTill_take (i := 4) (v := ?vb04) rfl (by kernel_rfl) (fun _ _ _ h => h) (Or.inl ⟨by rfl, ?hyb04⟩) o0 ?restb04
            case hyb04 => (intro W hW; (try dsimp only at hW); go_simp; try with_reducible rfl)
            simp only [Act.put, List.setIfInBounds_toArray, List.set_cons_zero, List.set_cons_succ]
            refine wpTill_run (i := 5) (by kernel_rfl) rfl o0 (fun K hK => ?_)
            go_simp
            go_at_call 43
            refine CF.out.mono ?_
            rintro E w4 ⟨ao3, cap3, rfl, hR3, hb3⟩
            have o4 : G.On (w.heap.size + 3) wr w4 := Below.trans o0 hb3
            have HL4 := HBB.out w4 o4
            have HR3 : Hid (Shr (w.heap.size + 3) w4 [w.heap.size, w.heap.size + 1, w.heap.size + 2] ao3 X2.ss.length cap3 X2.ss) := hR3.apart (by simp) (Nat.le_trans hlo o4.size)
            clear hR3 hb3 CF
            refine hK _ _ ?_
            clear hK K
            refine wpTill_run (i := 6) (by kernel_rfl) rfl o4 (fun K hK => ?_)
            obtain ⟨wq02, sq03, Hq04, qq01⟩ := HL4.stA ty_state 0 rfl 0 (stc X2 ao3 cap3) (cs' := stc X2 ao3 cap3) rfl (L' := [(w.heap.size, 30, stc X2 ao3 cap3), (w.heap.size + 1, 47, #[.int .u8 (i : Int), .int .u8 (j : Int)]), (w.heap.size + 2, 30, zsc)]) rfl (Nat.le_of_ble_eq_true rfl) rfl rfl
            have Sq05 := Lib.hid (HR3.out.turn (by simp) qq01)
            clear qq01 HR3
            go_simp
            refine hK _ _ ?_
            clear hK K
            refine wpTill_done (by kernel_rfl) ?_
            go_wp2
            go_roundw
            case rel => exact ⟨1, X2, ao3, cap3, by omega, by go_num, ⟨by rw [HX2.out, HX.out.1]; rfl, by rw [HX2.out]; exact fire_ok HX.out.2 (by decide) _⟩, Hq04, Sq05⟩
            case measure => simp [intOf]
          | 1, _ =>
            rw [show ((1 : Nat) : Int) = 1 from rfl]
            have CF : Hid (Calls Tryd.prog 43 #[.agg (stc X ao2 cap2), .int .i64 1, .int .u8 (j : Int)] wr.drew (StPost (w.heap.size + 3) wr.drew (fire X 1 z1.f))) := by
              have := fired1_c X ao2 X.ss.length cap2 (w.heap.size + 3) j wr.drew HIJ.out.2 HX.out.2.q (fac_below HF.out HR.out.drew.be HF.out.1) (by have := HSR.out.lo (w.heap.size + 2) (by simp); exact this) (by have := HF.out.1; omega) ((HSR.out.to (Below.refl _ wr).drew).less (by simp)) (by have := HX.out.2.n; omega)
              rw [← HZ1.out] at this
              exact this
            have hlo : w.heap.size + 3 ≤ wr.heap.size := HSR.out.lo (w.heap.size + 2) (by simp)
            have HB1 : ∀ W, G.On (w.heap.size + 3) wr W → Loc w.heap.size w W [(w.heap.size, 30, #[.int .u64 (X.fr : Int), .int .u64 (X.sd : Int), .int .i32 X.p.x, .int .i32 X.p.y, .int .i32 X.p.vx, .int .i32 X.p.vy, .int .u8 (X.p.h : Int), .int .u8 (X.p.c : Int), .int .u8 (X.p.f : Int), .int .i32 X.q.x, .int .i32 X.q.y, .int .i32 X.q.vx, .int .i32 X.q.vy, .int .u8 (X.q.h : Int), .int .u8 (X.q.c : Int), .int .u8 (X.q.f : Int), .slice ao2 X.ss.length cap2, .int .u16 (X.s0 : Int), .int .u16 (X.s1 : Int)]), (w.heap.size + 1, 47, #[.int .u8 (i : Int), .int .u8 (j : Int)]), (w.heap.size + 2, 30, zsc)] := fun W hW => HR.out.toB hW (by omega) (by simp)
            have a1 := fun W hW => (HB1 W hW).ldA ty_state 0 rfl 0 (vs := stc X ao2 cap2) rfl (Nat.le_of_ble_eq_true rfl)
            have a2 := fun W hW => (HB1 W hW).ldO ty_input 1 rfl 1 (v := .int .u8 (j : Int)) rfl
            have HBB := Lib.hid HB1
            clear HB1
            obtain ⟨X2, hX2⟩ : ∃ Y, Y = fire X 1 z1.f := ⟨_, rfl⟩
            rw [← hX2] at CF
            have HX2 := Lib.hid hX2
            clear hX2
            go_upto_region 12 with fail
            have o0 := G.On.drew (w.heap.size + 3) wr
            refine wp_region_till (S := fun w' => G.On (w.heap.size + 3) wr w') (by kernel_rfl) ?_
            refine wpTill_take (i := 0) (v := ?vb10) rfl (by kernel_rfl) (fun _ _ _ h => h) (Or.inl ⟨by rfl, ?hyb10⟩) o0 ?restb10
            case hyb10 => (intro W hW; (try dsimp only at hW); go_simp; try with_reducible rfl)
            simp only [Act.put, List.setIfInBounds_toArray, List.set_cons_zero, List.set_cons_succ]
            refine wpTill_take (i := 1) (v := ?vb11) rfl (by kernel_rfl) (fun _ _ _ h => h) (Or.inl ⟨by rfl, ?hyb11⟩) o0 ?restb11
            case hyb11 => (intro W hW; (try dsimp only at hW); go_simp; try with_reducible rfl)
            simp only [Act.put, List.setIfInBounds_toArray, List.set_cons_zero, List.set_cons_succ]
            refine wpTill_take (i := 2) (v := ?vb12) rfl (by kernel_rfl) (fun _ _ _ h => h) (Or.inl ⟨by rfl, ?hyb12⟩) o0 ?restb12
            case hyb12 => (intro W hW; (try dsimp only at hW); go_simp; try with_reducible rfl)
            simp only [Act.put, List.setIfInBounds_toArray, List.set_cons_zero, List.set_cons_succ]
            refine wpTill_take (i := 3) (v := ?vb13) rfl (by kernel_rfl) (fun _ _ _ h => h) (Or.inl ⟨by rfl, ?hyb13⟩) o0 ?restb13
            case hyb13 => (intro W hW; (try dsimp only at hW); go_simp; try with_reducible rfl)
            simp only [Act.put, List.setIfInBounds_toArray, List.set_cons_zero, List.set_cons_succ]
            refine wpTill_take (i := 4) (v := ?vb14) rfl (by kernel_rfl) (fun _ _ _ h => h) (Or.inl ⟨by rfl, ?hyb14⟩) o0 ?restb14
            case hyb14 => (intro W hW; (try dsimp only at hW); go_simp; try with_reducible rfl)
            simp only [Act.put, List.setIfInBounds_toArray, List.set_cons_zero, List.set_cons_succ]
            refine wpTill_run (i := 5) (by kernel_rfl) rfl o0 (fun K hK => ?_)
            go_simp
            go_at_call 43
            refine CF.out.mono ?_
            rintro E w4 ⟨ao3, cap3, rfl, hR3, hb3⟩
            have o4 : G.On (w.heap.size + 3) wr w4 := Below.trans o0 hb3
            have HL4 := HBB.out w4 o4
            have HR3 : Hid (Shr (w.heap.size + 3) w4 [w.heap.size, w.heap.size + 1, w.heap.size + 2] ao3 X2.ss.length cap3 X2.ss) := hR3.apart (by simp) (Nat.le_trans hlo o4.size)
            clear hR3 hb3 CF
            refine hK _ _ ?_
            clear hK K
            refine wpTill_run (i := 6) (by kernel_rfl) rfl o4 (fun K hK => ?_)
            obtain ⟨wq12, sq13, Hq14, qq11⟩ := HL4.stA ty_state 0 rfl 0 (stc X2 ao3 cap3) (cs' := stc X2 ao3 cap3) rfl (L' := [(w.heap.size, 30, stc X2 ao3 cap3), (w.heap.size + 1, 47, #[.int .u8 (i : Int), .int .u8 (j : Int)]), (w.heap.size + 2, 30, zsc)]) rfl (Nat.le_of_ble_eq_true rfl) rfl rfl
            have Sq15 := Lib.hid (HR3.out.turn (by simp) qq11)
            clear qq11 HR3
            go_simp
            refine hK _ _ ?_
            clear hK K
            refine wpTill_done (by kernel_rfl) ?_
            go_wp2
            go_roundw
            case rel => exact ⟨2, X2, ao3, cap3, by omega, by go_num, ⟨by rw [HX2.out, HX.out.1]; rfl, by rw [HX2.out]; exact fire_ok HX.out.2 (by decide) _⟩, Hq14, Sq15⟩
            case measure => simp [intOf]
          | 2, _ =>
            rw [show ((2 : Nat) : Int) = 2 from rfl]
            obtain ⟨P4, Q4, h4, hm4⟩ := three_at X
            have CM : Hid (∀ W, Calls Tryd.prog 44 #[.agg (pps X.p X.q)] W fun E w' => E = .returned (.agg (pps P4 Q4)) ∧ Below W.heap.size W w') := fun W => by have := moved_c X.p X.q W HX.out.2.p HX.out.2.q; rw [hm4] at this; exact this
            have H4 := Lib.hid h4
            have HO4 : Hid ({ X with p := P4, q := Q4 } : St).ok := by show St.ok _; rw [← h4]; exact three_ok HX.out.2
            clear h4 hm4
            have lm1 := HR.out.ldA ty_players 0 rfl 2 (vs := (pps X.p X.q)) rfl (Nat.le_of_ble_eq_true rfl)
            go_wp2_with fail
            refine (CM.out _).mono ?_
            rintro E w4 ⟨rfl, hb4⟩
            clear CM
            clear lm1
            have Hm2 := HR.out.to hb4
            have Sm3 := Lib.hid (HSR.out.to hb4)
            clear HSR
            obtain ⟨wm5, sm6, Hm7, qm4⟩ := Hm2.stA ty_players 0 rfl 2 (pps P4 Q4) (cs' := stc { X with p := P4, q := Q4 } ao2 cap2) rfl (L' := [(w.heap.size, 30, stc { X with p := P4, q := Q4 } ao2 cap2), (w.heap.size + 1, 47, #[.int .u8 (i : Int), .int .u8 (j : Int)]), (w.heap.size + 2, 30, zsc)]) rfl (Nat.le_of_ble_eq_true rfl) rfl rfl
            have Sm8 := Lib.hid (Sm3.out.turn (by simp) qm4)
            clear qm4 Sm3
            have lm9 := Hm7.ldA ty_state 0 rfl 0 (vs := (stc { X with p := P4, q := Q4 } ao2 cap2)) rfl (Nat.le_of_ble_eq_true rfl)
            have CL := Lib.hid (flown_c { X with p := P4, q := Q4 } ao2 cap2 wm5 (Sm8.out.shs (fun x hx => sh_fit (HX.out.2.ss x hx))) HO4.out)
            go_wp2_with fail
            refine CL.out.mono ?_
            rintro E w5 ⟨ao5, cap5, rfl, hR5, hb5⟩
            clear CL
            clear lm9 sm6
            have hlo : w.heap.size + 3 ≤ wm5.heap.size := Sm8.out.lo (w.heap.size + 2) (by simp)
            obtain ⟨X5, hX5⟩ : ∃ Y, Y = four { X with p := P4, q := Q4 } := ⟨_, rfl⟩
            rw [← hX5] at hR5
            rw [← hX5]
            have HX5 : Hid (X5 = four (three X) ∧ X5.ok ∧ X5.sd = X.sd) := ⟨by rw [hX5, H4.out], by rw [hX5]; exact (four_ok HO4.out).1, by rw [hX5]; exact (four_keep _).sd⟩
            have HR5 : Hid (Shr (w.heap.size + 3) w5 [w.heap.size, w.heap.size + 1, w.heap.size + 2] ao5 X5.ss.length cap5 X5.ss) := (hR5.low hlo).apart (by simp) (Nat.le_trans hlo hb5.size)
            have HB5 := Lib.hid hb5
            clear hX5 hR5 hb5 H4 HO4 hlo Sm8
            have Hm10 := Hm7.to HB5.out
            obtain ⟨wm12, sm13, Hm14, qm11⟩ := Hm10.stA ty_state 0 rfl 0 (stc X5 ao5 cap5) (cs' := stc X5 ao5 cap5) rfl (L' := [(w.heap.size, 30, stc X5 ao5 cap5), (w.heap.size + 1, 47, #[.int .u8 (i : Int), .int .u8 (j : Int)]), (w.heap.size + 2, 30, zsc)]) rfl (Nat.le_of_ble_eq_true rfl) rfl rfl
            have Sm15 := Lib.hid (HR5.out.turn (by simp) qm11)
            clear qm11 HR5
            have HSD : Hid (X.sd < 18446744073709551616) := by show _ < _; have := HX.out.1; rw [this, show fir X1 z0 z1 2 = fire (fire X1 0 z0.f) 1 z1.f from rfl, (fire_keep _ _ _).sd, (fire_keep _ _ _).sd, HX1.out]; exact HFT.out.2.1
            have HX3 : Hid (X = fire (fire X1 0 z0.f) 1 z1.f) := HX.out.1
            go_wp2
            go_loopw [57] (fun v wr => ∃ (k : Nat) (Y : St), k ≤ 2 ∧ v = .int .i64 k ∧ Hid (Y = bck X5 k ∧ Y.ok ∧ Y.sd < 18446744073709551616 ∧ Y.ss = X5.ss) ∧ Hid (Loc w.heap.size w wr [(w.heap.size, 30, stc Y ao5 cap5), (w.heap.size + 1, 47, #[.int .u8 (i : Int), .int .u8 (j : Int)]), (w.heap.size + 2, 30, zsc)]) ∧ Hid (Shr (w.heap.size + 3) wr [w.heap.size, w.heap.size + 1, w.heap.size + 2] ao5 X5.ss.length cap5 X5.ss)) (fun v _ => 2 - (intOf v).toNat)
            case atStart => exact ⟨0, X5, by omega, rfl, ⟨rfl, HX5.out.2.1, by rw [HX5.out.2.2]; exact HSD.out, rfl⟩, Hm14, Sm15.out⟩
            case round =>
              clear Hm14 Sm15 HR HX HB5 hb4
              obtain ⟨k, Y, hk, rfl, HY, HR, HSR⟩ := hrel
              match k, hk with
              | 0, _ =>
                rw [show ((0 : Nat) : Int) = 0 from rfl]
                obtain ⟨Z, hZ⟩ : ∃ Z, Z = back src Y 0 := ⟨_, rfl⟩
                have CR : Hid (∀ W, Calls Tryd.prog 46 #[.agg (stc Y ao5 cap5), .int .i64 0] W fun E w' => E = .returned (.agg (stc Z ao5 cap5)) ∧ Below W.heap.size W w') := fun W => by rw [hZ]; exact rev0_c Y ao5 cap5 W HY.out.2.2.1 (in32_x HY.out.2.1.q).1 (in32_x HY.out.2.1.q).2
                have HZ : Hid (Z = bck X5 1 ∧ Z.ok ∧ Z.sd < 18446744073709551616 ∧ Z.ss = X5.ss) := ⟨by rw [hZ, HY.out.1]; rfl, by rw [hZ]; exact back_ok src_ok HY.out.2.1 0, by rw [hZ]; exact back_sd _ _ HY.out.2.2.1, by rw [hZ, back_says]; exact HY.out.2.2.2⟩
                clear hZ
                have lv01 := HR.out.ldA ty_state 0 rfl 0 (vs := (stc Y ao5 cap5)) rfl (Nat.le_of_ble_eq_true rfl)
                go_wp2_with fail
                refine (CR.out _).mono ?_
                rintro E w6 ⟨rfl, hb6⟩
                clear CR
                clear lv01
                have Hv02 := HR.out.to hb6
                have Sv03 := Lib.hid (HSR.out.to hb6)
                clear HSR
                obtain ⟨wv05, sv06, Hv07, qv04⟩ := Hv02.stA ty_state 0 rfl 0 (stc Z ao5 cap5) (cs' := stc Z ao5 cap5) rfl (L' := [(w.heap.size, 30, stc Z ao5 cap5), (w.heap.size + 1, 47, #[.int .u8 (i : Int), .int .u8 (j : Int)]), (w.heap.size + 2, 30, zsc)]) rfl (Nat.le_of_ble_eq_true rfl) rfl rfl
                have Sv08 := Lib.hid (Sv03.out.turn (by simp) qv04)
                clear qv04 Sv03
                go_wp2
                go_roundw
                case rel => exact ⟨1, Z, by omega, by go_num, HZ, Hv07, Sv08⟩
                case measure => simp [intOf]
              | 1, _ =>
                rw [show ((1 : Nat) : Int) = 1 from rfl]
                obtain ⟨Z, hZ⟩ : ∃ Z, Z = back src Y 1 := ⟨_, rfl⟩
                have CR : Hid (∀ W, Calls Tryd.prog 46 #[.agg (stc Y ao5 cap5), .int .i64 1] W fun E w' => E = .returned (.agg (stc Z ao5 cap5)) ∧ Below W.heap.size W w') := fun W => by rw [hZ]; exact rev1_c Y ao5 cap5 W HY.out.2.2.1 (in32_x HY.out.2.1.p).1 (in32_x HY.out.2.1.p).2
                have HZ : Hid (Z = bck X5 2 ∧ Z.ok ∧ Z.sd < 18446744073709551616 ∧ Z.ss = X5.ss) := ⟨by rw [hZ, HY.out.1]; rfl, by rw [hZ]; exact back_ok src_ok HY.out.2.1 1, by rw [hZ]; exact back_sd _ _ HY.out.2.2.1, by rw [hZ, back_says]; exact HY.out.2.2.2⟩
                clear hZ
                have lv11 := HR.out.ldA ty_state 0 rfl 0 (vs := (stc Y ao5 cap5)) rfl (Nat.le_of_ble_eq_true rfl)
                go_wp2_with fail
                refine (CR.out _).mono ?_
                rintro E w6 ⟨rfl, hb6⟩
                clear CR
                clear lv11
                have Hv12 := HR.out.to hb6
                have Sv13 := Lib.hid (HSR.out.to hb6)
                clear HSR
                obtain ⟨wv15, sv16, Hv17, qv14⟩ := Hv12.stA ty_state 0 rfl 0 (stc Z ao5 cap5) (cs' := stc Z ao5 cap5) rfl (L' := [(w.heap.size, 30, stc Z ao5 cap5), (w.heap.size + 1, 47, #[.int .u8 (i : Int), .int .u8 (j : Int)]), (w.heap.size + 2, 30, zsc)]) rfl (Nat.le_of_ble_eq_true rfl) rfl rfl
                have Sv18 := Lib.hid (Sv13.out.turn (by simp) qv14)
                clear qv14 Sv13
                go_wp2
                go_roundw
                case rel => exact ⟨2, Z, by omega, by go_num, HZ, Hv17, Sv18⟩
                case measure => simp [intOf]
              | 2, _ =>
                rw [show ((2 : Nat) : Int) = 2 from rfl]
                obtain ⟨fn, hfn⟩ : ∃ n : Nat, n = (Y.fr + 1) % 18446744073709551616 := ⟨_, rfl⟩
                have hfw := fr_next Y.fr
                rw [← hfn] at hfw
                have HFN := Lib.hid hfn
                clear hfn
                have lz1 := HR.out.ldO ty_u64 0 rfl 0 (v := .int .u64 (Y.fr : Int)) rfl
                obtain ⟨wz3, sz4, Hz5, qz2⟩ := HR.out.stO ty_u64 0 rfl 0 (.int .u64 (fn : Int)) (cs' := stc { Y with fr := fn } ao5 cap5) rfl (L' := [(w.heap.size, 30, stc { Y with fr := fn } ao5 cap5), (w.heap.size + 1, 47, #[.int .u8 (i : Int), .int .u8 (j : Int)]), (w.heap.size + 2, 30, zsc)]) rfl (Nat.le_of_ble_eq_true rfl) rfl rfl
                have Sz6 := Lib.hid (HSR.out.turn (by simp) qz2)
                clear qz2 HSR
                have lz7 := Hz5.ldA ty_state 0 rfl 0 (vs := (stc { Y with fr := fn } ao5 cap5)) rfl (Nat.le_of_ble_eq_true rfl)
                obtain ⟨wz9, sz10, Hz11, qz8⟩ := Hz5.stA ty_state 2 rfl 0 (stc { Y with fr := fn } ao5 cap5) (cs' := stc { Y with fr := fn } ao5 cap5) rfl (L' := [(w.heap.size, 30, #[.int .u64 (fn : Int), .int .u64 (Y.sd : Int), .int .i32 Y.p.x, .int .i32 Y.p.y, .int .i32 Y.p.vx, .int .i32 Y.p.vy, .int .u8 (Y.p.h : Int), .int .u8 (Y.p.c : Int), .int .u8 (Y.p.f : Int), .int .i32 Y.q.x, .int .i32 Y.q.y, .int .i32 Y.q.vx, .int .i32 Y.q.vy, .int .u8 (Y.q.h : Int), .int .u8 (Y.q.c : Int), .int .u8 (Y.q.f : Int), .slice ao5 Y.ss.length cap5, .int .u16 (Y.s0 : Int), .int .u16 (Y.s1 : Int)]), (w.heap.size + 1, 47, #[.int .u8 (i : Int), .int .u8 (j : Int)]), (w.heap.size + 2, 30, stc { Y with fr := fn } ao5 cap5)]) rfl (Nat.le_of_ble_eq_true rfl) rfl rfl
                have Sz12 := Lib.hid (Sz6.out.turn (by simp) qz8)
                clear qz8 Sz6
                go_wp2
                refine bodyPost_ret (v := .agg (stc { Y with fr := fn } ao5 cap5)) (ret_struct Tryd.underlying30 ty_state _ 4 _ Tryd.results27 (Hz11.get 2 rfl) rfl rfl) rfl ?_
                have hfin : frame src s z0 z1 = { Y with fr := fn } := by
                  rw [HFN.out, HY.out.1, show bck X5 2 = back src (back src X5 0) 1 from rfl, HX5.out.1, HX3.out, HX1.out]; rfl
                rw [hfin] at HQ
                refine HQ.out _ _ ⟨ao5, cap5, rfl, ?_, Hz11.be⟩
                show Shr _ _ _ _ Y.ss.length _ Y.ss
                rw [HY.out.2.2.2]
                exact (Sz12.out.low (by omega)).less (by simp)
end Go.Proofs.YtgmbdadkahcpcaaDoor
