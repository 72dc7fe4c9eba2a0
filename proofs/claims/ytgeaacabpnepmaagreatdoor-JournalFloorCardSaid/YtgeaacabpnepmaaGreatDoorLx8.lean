/- Texts of the walk. -/
import Derived.Test.YtgeaacabpnepmaaGreatDoorLv8
import Derived.Test.YtgeaacabpnepmaaGreatDoorLt8
import Derived.Test.YtgeaacabpnepmaaGreatDoorLaid8
import Derived.Test.YtgeaacabpnepmaaGreatDoorGr8
import Derived.OpenShut
/- The floor's statement. -/
namespace Go.Proofs.YtgeaacabpnepmaaGreatDoor
open Go.RowKit
set_option linter.unusedVariables false
set_option linter.unusedSimpArgs false
set_option maxRecDepth 20000

def o0 : Op := opR 1048576 0 4 ⟨-1, [], 0, false, []⟩
theorem o0_says : o0.e = 0 ∧ o0.p.n < 100 ∧ o0.m.sg = [(1, 0)] := by decide +kernel
theorem o0_on : OnJ 2 1048576 o0.p (opJ 4 o0) [] [] 1 ∧ Nv o0.p := by
  have hg : DGood 1048576 [] := ⟨by decide, by decide, by constructor, by decide, (fun e h => by cases h), (fun e h => by cases h), (fun e h => by cases h), by decide⟩
  have hn : Nv o0.p := nv_opR (p := ⟨-1, [], 0, false, []⟩) ⟨rfl, by decide⟩ 1048576 0 4
  refine ⟨?_, hn⟩
  rcases open_any (Z := 2) (P := []) (O := []) (s := 0) (o := 0) (K := 0) (q := 1048576) (p := ⟨-1, [], 0, false, []⟩) (by decide) rfl hg ⟨.inl ⟨rfl, rfl, rfl⟩, by decide, fun f => rfl⟩ ⟨(fun c q h => by cases h), (fun c q h => by cases h), by decide⟩ (Nat.le_refl _) (by decide) (rows := 4) (by decide) (by decide) with ⟨_, ho, _⟩ | ⟨F, n, b, A⟩
  · have := hn.1
    rw [show o0.p = (opR 1048576 0 ((4 : Nat) : Int) ⟨-1, [], 0, false, []⟩).p from rfl, ho] at this
    cases this
  · have e2 := A.fd.hn
    have e4 := A.fd.hb
    have hon := A.on
    have hn0 : n = 0 := by simpa using e2
    have hb0 : b = 0 := by simpa [alls] using e4
    subst hn0 hb0
    exact hon
def cks (two : Bool) (a b : Nat) : List Nat := if two then [a + 1 + b, a] else [a + 1 + b]
theorem cks_ok (two : Bool) (a b : Nat) : cksB (cks two a b) = true ∧ (cks two a b).length ≤ 2 := by
  cases two <;> simp [cks, cksB, ckOk] <;> omega
theorem ns_made (W : World) (cs : Array Value) (T : TypeId) (l : List Nat) (h : ∀ k (hk : k < l.length), cs[k]? = some (.int .u64 ((l[k]'hk : Nat) : Int))) : NsAt (W.alloc (.cells cs T)) (some ⟨W.heap.size, 0, none⟩) l := fun k hk => by
  refine ⟨_, _, rfl, fun i v hv => ?_⟩
  have hc := fun o => (Cells.made W T cs).cell o
  match i, hv with
  | 0, hv =>
    have e0 : 0 + k * 1 + 0 = k := by omega
    rw [hc, e0, h k hk]
    exact hv
theorem ns_lone (W : World) (x : Nat) (T : TypeId) : NsAt (W.alloc (.cells #[.int .u64 (x : Int)] T)) (some ⟨W.heap.size, 0, none⟩) [x] := ns_made W _ T _ fun k hk => by
  match k, hk with
  | 0, _ => rfl
theorem ns_pair (W : World) (x y : Nat) (a b : Obj) (T : TypeId) (ex : Array Value) : NsAt (((W.alloc a).alloc b).alloc (.cells (#[.int .u64 (x : Int), .int .u64 (y : Int)] ++ ex) T)).drew (some ⟨W.heap.size + 1 + 1, 0, none⟩) [x, y] ∧ Below W.heap.size W (((W.alloc a).alloc b).alloc (.cells (#[.int .u64 (x : Int), .int .u64 (y : Int)] ++ ex) T)).drew := by
  have b1 := below_alloc W a
  have b2 := b1.trans ((below_alloc (W.alloc a) b).mono b1.size)
  have b3 := b2.trans ((below_alloc ((W.alloc a).alloc b) (.cells (#[.int .u64 (x : Int), .int .u64 (y : Int)] ++ ex) T)).mono b2.size)
  have e : ((W.alloc a).alloc b).heap.size = W.heap.size + 1 + 1 := by
    show ((W.heap.push a).push b).size = _
    rw [Array.size_push, Array.size_push]
  have h := ns_made ((W.alloc a).alloc b) (#[.int .u64 (x : Int), .int .u64 (y : Int)] ++ ex) T [x, y] fun k hk => by
    rw [Array.getElem?_append_left (by simpa using hk)]
    match k, hk with
    | 0, _ => rfl
    | 1, _ => rfl
  rw [e] at h
  exact ⟨h.to (Below.refl _ _).drew, b3.drew⟩
attribute [local go_sem ↓] ld_found st_found ld_u64 ld_bool ld_prs ld_inps ld_u8
set_option maxHeartbeats 8000000 in
theorem law_floor (n a b : Nat) (two : Bool) (w : World) (hn : n < 256) (ha : a < 256) (hb : b < 256) (ht : Tab w) : Calls Tryz.prog 5 #[.int .u8 (n : Int), .agg #[.int .u8 (a : Int), .int .u8 (b : Int)], .bool two] w fun R w' => R = .returned (.bool true) ∧ Below w.heap.size w w' := by
  have hmaxu : Hid (1 < w.heap.size) := ht.1
  have HBX := Lib.hid (below_alloc w (.cells #[.int .u8 (a : Int), .int .u8 (b : Int)] 70))
  have HX0 : Hid (Loc w.heap.size w (w.alloc (.cells #[.int .u8 (a : Int), .int .u8 (b : Int)] 70)) [(w.heap.size, 70, #[.int .u8 (a : Int), .int .u8 (b : Int)])]) := Loc.one w 70 #[.int .u8 (a : Int), .int .u8 (b : Int)]
  have HT := Lib.hid (tab_below ht HBX.out)
  obtain ⟨cnt, hcnt⟩ : ∃ c : Nat, c = n % 70 := ⟨_, rfl⟩
  have hc70 : cnt < 70 := by omega
  have HAB : Hid (a < 256 ∧ b < 256) := ⟨ha, hb⟩
  clear ht ha hb
  go_enter Tryz.func5, Tryz.ntmps5
  go_upto_region 1 with fail
  obtain ⟨wa, hwa⟩ : ∃ W, W = w.alloc (.cells #[.int .u8 (a : Int), .int .u8 (b : Int)] 70) := ⟨_, rfl⟩
  rw [← hwa] at HBX HX0 HT ⊢
  clear hwa
  have KN : Hid (Calls Tryz.prog 10 #[.int .i64 1048576] wa (NewPost 1048576 wa)) := new_c 1048576 wa
  go_wp2_with fail
  refine KN.out.mono ?_
  rintro R w1 ⟨hb1, (⟨_, _, dv, rfl, hd1⟩ | ⟨h1, _⟩)⟩
  rotate_left
  · omega
  have hd1' : DkS (fun x => wa.heap.size ≤ x ∧ x < w1.heap.size) w1 dv 1048576 [] := hd1.mono fun x hx h => ⟨h, hx⟩
  have HB1 := Lib.hid hb1
  have hcr : Hid (1 < wa.heap.size) := by have := hmaxu.out; have := HBX.out.size; show _ < _; omega
  have HOC : Hid (Calls Tryz.prog 15 #[dv, .slice none 0 0] w1 (OdPost (fun x => wa.heap.size ≤ x ∧ x < w1.heap.size) w1 1048576 dv [] [])) := opened_c none [] 0 w1 hd1' (fun j hj => by cases hj) (by decide) o0_says.1 (tab_below HT.out hb1) (fun h => by have := hcr.out; omega) (fun x h => h.2)
  clear hd1 hd1' hb1 KN
  go_wp2_with fail
  refine HOC.out.mono ?_
  rintro R w2 ⟨gj, gp, ko, kc, co, cc, po, pc, io, ic, V2, rfl, hj2, hv2, ht2, _⟩
  have e0 : opR 1048576 0 4 ⟨-1, [], 0, false, []⟩ = o0 := rfl
  rw [e0] at hj2 ⊢
  have HB2 : Hid (Below wa.heap.size wa w2) := HB1.out.trans (ht2.below (fun x hx hs => by omega) HB1.out.size)
  have HK2 : Hid (Kj wa.heap.size wa w2 gj gp 1048576 dv ko kc o0.p (opJ 4 o0)) := ⟨⟨V2, hj2, fun x hx => by
    have := HB1.out.size
    rcases hv2 x hx with h | h
    · exact h.1.1
    · omega⟩, HB2.out, Nat.le_refl _⟩
  obtain ⟨g3, w3, z3, s3, H3, q3⟩ := (Loc.nil (Nat.le_refl w2.heap.size)).newA ty_found #[.int .u64 0, .bool false, .slice none 0 0, .int .u64 0, .slice none 0 0, .slice none 0 0] (fcs o0 co cc po pc io ic) rfl rfl rfl
  have HK3 := Lib.hid (HK2.out.new (below_of_grown q3))
  clear H3 q3 hj2 hv2 ht2 e0 HOC HK2 HB2
  go_wp2_with fail
  have ec : (n : Int) % 70 = (cnt : Int) := by omega
  rw [ec]
  clear hcnt ec hn
  go_loopw [12] (fun fv wr => ∃ (f : Nat) (p : Pw) (j : Jn), f ≤ cnt ∧ fv = .int .u64 (f : Int) ∧ Hid (Kj wa.heap.size wa wr gj gp 1048576 dv ko kc p j) ∧ Hid (OnJ 2 1048576 p j (List.replicate f (5, 6)) [] 1 ∧ Nv p ∧ p.n ≤ 100 + 2 * f ∧ j.ap ≤ 2 * f ∧ j.m.sg = [(1, 0)])) (fun fv _ => 70 - (intOf fv).toNat)
  case atStart => exact ⟨0, o0.p, opJ 4 o0, Nat.zero_le _, rfl, HK3, o0_on.1, o0_on.2, by have := o0_says.2.1; omega, Nat.le_refl _, o0_says.2.2⟩
  case round =>
    obtain ⟨f, p, j, hf, rfl, HK, HM⟩ := hrel
    by_cases hlt : f < cnt
    · have HLT := Lib.hid hlt
      obtain ⟨AW, hAW⟩ : ∃ A, A = jOwn 1048576 p j f 5 := ⟨_, rfl⟩
      obtain ⟨AS, hAS⟩ : ∃ A, A = jSure 1048576 AW.p AW.j f 5 6 := ⟨_, rfl⟩
      obtain ⟨m1, m2, m3, m4, m5, m6, m7, m8, m9⟩ := fl_step HM.out.1 HM.out.2.1 (by omega) hAW.symm hAS.symm
      have hn1 := HM.out.2.2.1
      have hn2 := HM.out.2.2.2.1
      have HT1 := Lib.hid (tab_b HT.out hcr.out HK.out.be)
      have K1 : Hid (Calls Tryz.prog 16 #[.pointer (some ⟨gj, 0, none⟩), .int .u64 (f : Int), .int .u8 5] wr fun R w' => R = .returned (.int .i64 0) ∧ Kj wa.heap.size wa w' gj gp 1048576 dv ko kc AW.p AW.j) := HK.out.call fun V h _ => by
        have := jown_c f 5 wr h (by omega) (by omega) HT1.out (by omega)
        rw [← hAW, m1] at this
        exact this
      have HMN : Hid (OnJ 2 1048576 AS.p AS.j (List.replicate (f + 1) (5, 6)) [] 1 ∧ Nv AS.p ∧ AS.p.n ≤ 100 + 2 * (f + 1) ∧ AS.j.ap ≤ 2 * (f + 1) ∧ AS.j.m.sg = [(1, 0)]) := ⟨m3, m4, by omega, by omega, by rw [m5]; exact HM.out.2.2.2.2⟩
      have HFL : Hid (f < 70 ∧ AW.p.n < 1000000 ∧ AW.j.ap < 1000000 ∧ AS.e = 0 ∧ jSure 1048576 AW.p AW.j f 5 6 = AS) := ⟨by omega, by omega, by omega, m2, hAS.symm⟩
      clear m1 m2 m3 m4 m5 m6 m7 m8 m9 hn1 hn2 hAS hAW HK HM hlt
      go_wp2_with fail
      refine K1.out.mono ?_
      rintro R w4 ⟨rfl, hk4⟩
      have HK4 := Lib.hid hk4
      have HT4 := Lib.hid (tab_b HT.out hcr.out hk4.be)
      have K2 : Hid (Calls Tryz.prog 17 #[.pointer (some ⟨gj, 0, none⟩), .int .u64 (f : Int), .agg #[.int .u8 5, .int .u8 6]] w4 fun R w' => R = .returned (.int .i64 0) ∧ Kj wa.heap.size wa w' gj gp 1048576 dv ko kc AS.p AS.j) := hk4.call fun V h _ => by
        have := jsure_c f 5 6 w4 h HFL.out.2.1 HFL.out.2.2.1 HT4.out (by have := HFL.out.1; omega)
        rw [HFL.out.2.2.2.2, HFL.out.2.2.2.1] at this
        exact this
      clear hk4 K1 HK4 HT4 HT1
      go_wp2_with fail
      refine K2.out.mono ?_
      rintro R w5 ⟨rfl, hk5⟩
      have HK5 := Lib.hid hk5
      clear hk5 K2
      have hf7 := HFL.out.1
      have e1 : IntKind.u64.wrap ((f : Int) + 1) = ((f + 1 : Nat) : Int) := by rw [IntWalk.u64_in _ (by omega)]; omega
      go_wp2
      go_roundw
      case rel => exact ⟨f + 1, AS.p, AS.j, HLT.out, by go_num, HK5, HMN⟩
      case measure => simp [intOf]; omega
    · obtain rfl : f = cnt := by omega
      clear hlt hf
      obtain ⟨A9, hA9⟩ : ∃ x : Nat, x = a % 90 := ⟨_, rfl⟩
      obtain ⟨B9, hB9⟩ : ∃ x : Nat, x = b % 90 := ⟨_, rfl⟩
      have HXr := Lib.hid (show Loc w.heap.size w wr [(w.heap.size, 70, #[.int .u8 (a : Int), .int .u8 (b : Int)])] from HX0.out.to HK.out.be)
      have HBN := fun n => HXr.out.to (below_drewN (Below.refl _ _) n)
      have l0 := fun n => (HBN n).ldO ty_u8 0 rfl 0 (v := .int .u8 (a : Int)) rfl
      have l1 := fun n => (HBN n).ldO ty_u8 0 rfl 1 (v := .int .u8 (b : Int)) rfl
      clear HBN
      go_upto_region 11 with fail
      go_quiet (fail)
      clear l0 l1
      have hab := HAB.out
      have ha9 : (a : Int) % 90 = (A9 : Int) := by omega
      have hb9 : (b : Int) % 90 = (B9 : Int) := by omega
      have HA9 : Hid (A9 < 90 ∧ B9 < 90) := by show _ ∧ _; omega
      have HKd := Lib.hid (HK.out.new (below_drewN (Below.refl _ _) nq))
      clear hab hA9 hB9
      generalize wr.drewN nq = wq at *
      have e3 : IntKind.u64.wrap ((A9 : Int) + 1) = ((A9 + 1 : Nat) : Int) := by have := HA9.out; rw [IntWalk.u64_in _ (by omega)]; omega
      have e4 : IntKind.u64.wrap (((A9 + 1 : Nat) : Int) + (B9 : Int)) = ((A9 + 1 + B9 : Nat) : Int) := by have := HA9.out; rw [IntWalk.u64_in _ (by omega)]; omega
      try rw [ha9]
      try rw [hb9]
      try rw [e3]
      try rw [e4]
      clear ha9 hb9 e3 e4
      have hf7 : f < 70 := hc70
      go_upto_if 67 with fail
      go_cut [15, 16] (fun v15 v16 wx => ∃ (co : Option Addr) (cap : Nat), v15 = .slice co (cks two A9 B9).length cap ∧ v16 = .int .u64 (flr (cks two A9 B9) f : Int) ∧ Hid (NsAt wx co (cks two A9 B9) ∧ ∀ a, co = some a → wq.heap.size ≤ a.block) ∧ Hid (Below wq.heap.size wq wx))
      case first =>
        cases two
        case false =>
          go_wp2_with fail
          all_goals go_meet
          exact ⟨_, _, rfl, by simp [cks, flr], ⟨ns_lone wq (A9 + 1 + B9) _, fun a e => by cases e; exact Nat.le_refl _⟩, below_alloc _ _⟩
        case true =>
          by_cases h12 : 12 ≤ f
          case neg =>
            have h12' : (f : Int) < 12 := by omega
            go_wp2_with fail
            all_goals go_meet
            exact ⟨_, _, rfl, by simp [cks, flr, Nat.lt_of_not_le h12], ⟨(ns_pair wq (A9 + 1 + B9) A9 _ _ _ _).1, fun a e => by cases e; show _ ≤ _ + 1 + 1; omega⟩, (ns_pair wq (A9 + 1 + B9) A9 _ _ _ _).2⟩
          case pos =>
            have h12' : (12 : Int) ≤ (f : Int) := by omega
            have e5 : IntKind.u64.wrap ((f : Int) - 12) = ((f - 12 : Nat) : Int) := by rw [IntWalk.u64_in _ (by omega)]; omega
            go_wp2_with fail
            all_goals go_meet
            have E7 : Value.int IntKind.u64 (min (A9 : Int) ((f - 12 : Nat) : Int)) = .int .u64 ((flr (cks true A9 B9) f : Nat) : Int) := by
              unfold flr
              rw [if_neg (by simp [cks]; omega)]
              congr 1
              simp only [cks, if_true, List.getD_cons_succ, List.getD_cons_zero]
              omega
            exact ⟨_, _, rfl, E7, ⟨(ns_pair wq (A9 + 1 + B9) A9 _ _ _ _).1, fun a e => by cases e; show _ ≤ _ + 1 + 1; omega⟩, (ns_pair wq (A9 + 1 + B9) A9 _ _ _ _).2⟩
      case rest =>
      obtain ⟨co1, cap1, rfl, rfl, HNS, HBW⟩ := hcut
      obtain ⟨ck, hck⟩ : ∃ ck, ck = cks two A9 B9 := ⟨_, rfl⟩
      have hck2 : cksB ck = true ∧ ck.length ≤ 2 := by rw [hck]; exact cks_ok _ _ _
      have hckf : ckFit ck := by
        have h9 := HA9.out
        intro c hc
        rw [hck] at hc
        cases two <;> simp [cks] at hc <;> omega
      rw [← hck] at HNS ⊢
      obtain ⟨Y, hY⟩ : ∃ A, A = jSync 1048576 p j := ⟨_, rfl⟩
      obtain ⟨A, hA⟩ : ∃ x, x = jKeep 1048576 Y.p Y.j 0 ck := ⟨_, rfl⟩
      obtain ⟨y1, y2, y3, y4⟩ := fl_end HM.out.1 HM.out.2.1 (by decide) HM.out.2.2.2.2 hck2.1 hckf hck2.2 hY.symm hA.symm
      obtain ⟨R1, hR1⟩ : ∃ R, opR 1048576 0 4 ⟨-1, [], 0, false, A.p.E⟩ = R := ⟨_, rfl⟩
      obtain ⟨p1, p2, p3, p4, p5⟩ := y4 R1 hR1
      obtain ⟨R2, hR2⟩ : ∃ R, opR 1048576 0 4 ⟨-1, [], 0, false, R1.p.E⟩ = R := ⟨_, rfl⟩
      obtain ⟨q1, q2, q3⟩ := p5 R2 hR2
      rw [List.length_replicate] at p2 p3 q2 q3
      have hfl := flr_le ck f
      generalize flr ck f = fl at *
      have hn1 := HM.out.2.2.1
      obtain ⟨V, hj, hv⟩ := HKd.out.jc
      have HJ := Lib.hid hj
      have HV := Lib.hid hv
      have HJc := Lib.hid (hj.new HBW.out)
      have K1 : Hid (Calls Tryz.prog 21 #[.pointer (some ⟨gj, 0, none⟩)] wc (JPost V wc gj gp 1048576 dv ko kc 0 Y.p Y.j)) := by
        have := jsync_c wc HJc.out (by omega)
        rw [← hY, y1] at this
        exact this
      have HY := Lib.hid (And.intro y3 (And.intro y2 (And.intro hA (And.intro hck2 hckf))))
      have HR1 := Lib.hid (And.intro hR1 p1)
      have HR2 := Lib.hid (And.intro hR2 q1)
      have HPQ := Lib.hid (show R1.x.fr = fl ∧ R1.x.ps.length = f - fl ∧ R1.x.ah = [] ∧ R2.x.fr = fl ∧ R2.x.ps.length = f - fl from ⟨p2, p3, p4, q2, q3⟩)
      have HN := Lib.hid hn1
      have HFL := Lib.hid hfl
      clear hY hA y1 y2 y3 y4 hR1 p1 p2 p3 p4 p5 hR2 q1 q2 q3 hfl hn1 hj hv hck2 hckf hck
      go_wp2_with fail
      refine K1.out.mono ?_
      rintro R w10 ⟨rfl, V1, hj1, ht1⟩
      have HNS1 := Lib.hid (show NsAt w10 co1 ck from HNS.out.1.tuS ht1.tu fun h0 a e hx => by have := HNS.out.2 a e; have := HJ.out.lt _ hx; omega)
      have HV1 : Hid (∀ x, V1 x → wa.heap.size ≤ x) := fun x hx => by
        have z1 := HKd.out.be.size
        have z2 := HBW.out.size
        rcases ht1.more x hx with h | h
        · exact HV.out x h
        · omega
      have HB10 := Lib.hid (show Below wa.heap.size wa w10 from (HKd.out.be.trans (HBW.out.mono HKd.out.be.size)).trans (ht1.tu.below (fun x hx hs => by have := HV.out x hs; omega) (Nat.le_trans HKd.out.be.size HBW.out.size)))
      have HT10 := Lib.hid (tab_b HT.out hcr.out HB10.out)
      have K2 : Hid (Calls Tryz.prog 27 #[.pointer (some ⟨gj, 0, none⟩), .int .u64 0, .slice co1 ck.length cap1] w10 (JPost V1 w10 gj gp 1048576 dv ko kc 0 A.p A.j)) := by
        have := jkeep_c 0 ck co1 cap1 w10 hj1 HNS1.out HY.out.2.2.2.2 (by have := HY.out.2.2.2.1.2; omega) (by decide) (by have := HY.out.1; have := HN.out; omega) HT10.out
        rw [← HY.out.2.2.1, HY.out.2.1] at this
        exact this
      clear hj1 ht1 K1 HNS HNS1
      go_wp2_with fail
      refine K2.out.mono ?_
      rintro R w11 ⟨rfl, V2, hj2, ht2⟩
      have HV2 : Hid (∀ x, V2 x → wa.heap.size ≤ x) := fun x hx => by
        have z1 := HB10.out.size
        rcases ht2.more x hx with h | h
        · exact HV1.out x h
        · omega
      have HB11 := Lib.hid (show Below wa.heap.size wa w11 from HB10.out.trans (ht2.tu.below (fun x hx hs => by have := HV1.out x hs; omega) HB10.out.size))
      have HT11 := Lib.hid (tab_b HT.out hcr.out HB11.out)
      obtain ⟨S, k1, k2⟩ := hj2.pj.disk
      have HS := Lib.hid (show ∀ x, S x → wa.heap.size ≤ x ∧ x < w11.heap.size from fun x hx => ⟨HV2.out x (k2 x hx), hj2.lt x (k2 x hx)⟩)
      have O1 : Hid (Calls Tryz.prog 15 #[dv, .slice none 0 0] w11 (OdPost S w11 1048576 dv [] A.p.E)) := opened_c none [] 0 w11 k1 (fun j hj => by cases hj) (by decide) (by rw [HR1.out.1]; exact HR1.out.2) HT11.out (fun h => by have := (HS.out _ h).1; have := hcr.out; omega) (fun x h => (HS.out x h).2)
      clear k1 k2 hj2 ht2 K2
      go_wp2_with fail
      refine O1.out.mono ?_
      rintro R w12 ⟨gj1, gp1, ko1, kc1, co2, cc2, po2, pc2, io2, ic2, V3, rfl, hj3, hv3, ht3, _, _, _, _, _⟩
      rw [HR1.out.1] at hj3 ⊢
      have HB12 := Lib.hid (show Below wa.heap.size wa w12 from HB11.out.trans (ht3.below (fun x hx hs => by have := (HS.out x hs).1; omega) HB11.out.size))
      obtain ⟨g13, w13, z13, s13, H13, q13⟩ := (Loc.nil (Nat.le_refl w12.heap.size)).newA ty_found #[.int .u64 0, .bool false, .slice none 0 0, .int .u64 0, .slice none 0 0, .slice none 0 0] (fcs R1 co2 cc2 po2 pc2 io2 ic2) rfl rfl rfl
      obtain ⟨S2, k3, k4⟩ := hj3.pj.disk
      have HS2 := Lib.hid (show ∀ x, S2 x → wa.heap.size ≤ x ∧ x < w12.heap.size from fun x hx => ⟨by
        have := HB11.out.size
        rcases hv3 x (k4 x hx) with h | h
        · exact (HS.out x h.1).1
        · omega, hj3.lt x (k4 x hx)⟩)
      have HB13 := Lib.hid (show Below wa.heap.size wa w13 from HB12.out.trans ((below_of_grown q13).mono HB12.out.size))
      have HT13 := Lib.hid (tab_b HT.out hcr.out HB13.out)
      have O2 : Hid (Calls Tryz.prog 15 #[dv, .slice none 0 0] w13 (OdPost S2 w13 1048576 dv [] R1.p.E)) := opened_c none [] 0 w13 (k3.new (below_of_grown q13)) (fun j hj => by cases hj) (by decide) (by rw [HR2.out.1]; exact HR2.out.2) HT13.out (fun h => by have := (HS2.out _ h).1; have := hcr.out; omega) (fun x h => Nat.lt_of_lt_of_le (HS2.out x h).2 (below_of_grown q13).size)
      have HC13 := Lib.hid (show Cells w13 g13 49 (fcs R1 co2 cc2 po2 pc2 io2 ic2) from H13.get 0 rfl)
      have HZ13 := Lib.hid (show w12.heap.size ≤ g13 from Nat.le_of_eq z13)
      clear k3 k4 hj3 hv3 ht3 O1 H13 q13
      go_wp2_with fail
      refine O2.out.mono ?_
      rintro R w14 ⟨gj2, gp2, ko2, kc2, co3, cc3, po3, pc3, io3, ic3, V4, rfl, hj4, hv4, ht4, _, _, _, _, _⟩
      rw [HR2.out.1]
      have HB14 := Lib.hid (show Below wa.heap.size wa w14 from HB13.out.trans (ht4.below (fun x hx hs => by have := (HS2.out x hs).1; omega) HB13.out.size))
      have HC14 := Lib.hid (Cells.tu HC13.out ht4 (fun h => by have := (HS2.out _ h).2; have := HZ13.out; omega))
      obtain ⟨g15, w15, z15, s15, H15, q15⟩ := (Loc.nil (Nat.le_refl w14.heap.size)).newA ty_found #[.int .u64 0, .bool false, .slice none 0 0, .int .u64 0, .slice none 0 0, .slice none 0 0] (fcs R2 co3 cc3 po3 pc3 io3 ic3) rfl rfl rfl
      have HB15 := Lib.hid (show Below wa.heap.size wa w15 from HB14.out.trans ((below_of_grown q15).mono HB14.out.size))
      have HC15 := Lib.hid (cells_new HC14.out (below_of_grown q15))
      have l1 := run_ldO ty_u64 HC15.out 3 (v := .int .u64 (R1.x.fr : Int)) rfl
      have l2 := run_ldO ty_prs HC15.out 4 (v := .slice po2 R1.x.ps.length pc2) rfl
      have l3 := run_ldO ty_inps HC15.out 5 (v := .slice io2 R1.x.ah.length ic2) rfl
      have l4 := H15.ldO ty_u64 0 rfl 3 (v := .int .u64 (R2.x.fr : Int)) rfl
      have l5 := H15.ldO ty_prs 0 rfl 4 (v := .slice po3 R2.x.ps.length pc3) rfl
      rw [HPQ.out.1] at l1
      rw [HPQ.out.2.1] at l2
      rw [HPQ.out.2.2.1] at l3
      rw [HPQ.out.2.2.2.1] at l4
      rw [HPQ.out.2.2.2.2] at l5
      have l3' : _ := l3
      rw [List.length_nil] at l3
      have HAW := Lib.hid (awake_c w15 (tab_b HT.out hcr.out HB15.out))
      have HE := Lib.hid (show Below w.heap.size w w15 from HBX.out.trans (HB15.out.mono HBX.out.size))
      clear l3' H15 q15 hj4 hv4 ht4 O2
      have hfl := HFL.out
      obtain ⟨r, hr⟩ : ∃ r : Nat, r = f - fl := ⟨_, rfl⟩
      rw [← hr] at l2 l5
      have e6 : IntKind.u64.wrap ((fl : Int) + (r : Int)) = (f : Int) := by rw [IntWalk.u64_in _ (by omega)]; omega
      have e7 : IntKind.u64.wrap (r : Int) = (r : Int) := IntWalk.u64_in _ (by omega)
      clear hr hfl
      go_wp2_with fail
      refine HAW.out.mono ?_
      rintro R w16 ⟨rfl, hb16⟩
      have HEE := Lib.hid (show Below w.heap.size w w16 from HE.out.trans (hb16.mono HE.out.size))
      clear hb16
      go_wp2
      go_ret
      exact ⟨rfl, HEE.out⟩
end Go.Proofs.YtgeaacabpnepmaaGreatDoor
/- The floor's row. -/
namespace Go.Proofs.YtgeaacabpnepmaaGreatDoor
open Go.ChangeShapes Go.WideShapes Go.RowKit
set_option linter.unusedVariables false
theorem rowFloor (n a b : Int) (two : Bool) (W : World) (hn : (Lit.int .u8 n).wf = true) (ha : (Lit.int .u8 a).wf = true) (hb : (Lit.int .u8 b).wf = true) (hL : laidMetH Tryz.prog laidList W) :
    Calls Tryz.prog 5 #[.int .u8 n, .agg #[.int .u8 a, .int .u8 b], .bool two] W fun R w' => R = .returned (.bool true) ∧ Below W.heap.size W w' := by
  have h1 := bounds_u8 hn
  have h2 := bounds_u8 ha
  have h3 := bounds_u8 hb
  obtain ⟨n', rfl⟩ := Int.eq_ofNat_of_zero_le h1.1
  obtain ⟨a', rfl⟩ := Int.eq_ofNat_of_zero_le h2.1
  obtain ⟨b', rfl⟩ := Int.eq_ofNat_of_zero_le h3.1
  exact law_floor n' a' b' two W (by omega) (by omega) (by omega) (tab_of_laid hL)
end Go.Proofs.YtgeaacabpnepmaaGreatDoor
