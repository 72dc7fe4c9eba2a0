/- ManifestWhole: the walk. Nothing is assumed beyond the bounds of the row's own types. -/
import Derived.Test.YtakejacamkdncaaGreatDoorZq
import Derived.Test.YtakejacamkdncaaGreatDoorZn
import Derived.LaidEqlPtr
namespace Go.Proofs.YtakejacamkdncaaGreatDoor
open Go.RowKit
set_option linter.unusedVariables false
set_option linter.unusedSimpArgs false
set_option maxRecDepth 20000

/-- What such a disk's file tells. -/
def lcA (a : Option (List UInt8)) : Int := match a with | none => 5 | some c => tkE c
def lmA (a : Option (List UInt8)) : Mf := match a with | none => mz | some c => tkM c
theorem ld_of (a : Option (List UInt8)) (b : Option (List UInt8 × Nat)) : ldC (pn0 (dE a b)) = lcA a ∧ ldM (pn0 (dE a b)) = lmA a := by
  cases a with
  | none => exact ld_none (p := pn0 (dE none b)) (b := b) rfl rfl
  | some c => exact ld_some (p := pn0 (dE (some c) b)) (b := b) rfl rfl
/-- Behind a swap: what it answered, and how the disk stands. -/
theorem whole_step {q : Nat} (m : Mf) (hf : m.fit) (fu : Int) (ks : List Int) (a : Option (List UInt8)) (b : Option (List UInt8 × Nat)) (ha : aFit a) (hb : bFit b) (hq : 1000 ≤ q) :
    ∃ a' b', aFit a' ∧ bFit b' ∧ (swP q m ⟨fu, ks, 0, false, dE a b⟩).E = dE a' b' ∧
      ((swE q m ⟨fu, ks, 0, false, dE a b⟩ = 0 ∧ lcA a' = 0 ∧ lmA a' = m) ∨ (swE q m ⟨fu, ks, 0, false, dE a b⟩ = 4 ∧ a' = a) ∨ (swE q m ⟨fu, ks, 0, false, dE a b⟩ = 8 ∧ (a' = a ∨ (lcA a' = 0 ∧ lmA a' = m)))) := by
  cases hok : m.ok
  · obtain ⟨h1, h2⟩ := sw_no (q := q) (p := ⟨fu, ks, 0, false, dE a b⟩) hok
    exact ⟨a, b, ha, hb, by rw [h2], .inr (.inl ⟨h1, rfl⟩)⟩
  · obtain ⟨h1, h2⟩ := sw_yes (q := q) (p := ⟨fu, ks, 0, false, dE a b⟩) hok
    have he := enc_len hok
    obtain ⟨t1, t2⟩ := tk_enc hf hok
    obtain ⟨c, hc, (⟨e1, e2⟩ | ⟨e1, (e2 | e2)⟩)⟩ := left_all (q := q) (t := enc m) (p := ⟨fu, ks, 0, false, dE a b⟩) rfl rfl ha hb he hq
    · exact ⟨some (enc m), c, fun x hx => by cases hx; exact he, hc, by rw [h2]; exact e2, .inl ⟨by rw [h1]; exact e1, t1, t2⟩⟩
    · exact ⟨a, c, ha, hc, by rw [h2]; exact e2, .inr (.inr ⟨by rw [h1]; exact e1, .inl rfl⟩)⟩
    · exact ⟨some (enc m), c, fun x hx => by cases hx; exact he, hc, by rw [h2]; exact e2, .inr (.inr ⟨by rw [h1]; exact e1, .inr ⟨t1, t2⟩⟩)⟩
theorem ps_tu {w w' : World} {so : Option Addr} {l : List (Nat × Nat)} {S : Nat → Prop} (h : PsAt w so l) (k : Tu S w w') (hs : ∀ a, so = some a → ¬ S a.block) : PsAt w' so l := fun i hi => by
  obtain ⟨b, o, e, hc⟩ := h i hi
  refine ⟨b, o, e, fun j v hv => ?_⟩
  have h1 := hc j v hv
  rw [World.cell?_of_block (w := w) (k.block b (World.block_lt_of_cell? w _ h1) (hs _ e))]
  exact h1
theorem ns_tu {w w' : World} {so : Option Addr} {l : List Nat} {S : Nat → Prop} (h : NsAt w so l) (k : Tu S w w') (hs : ∀ a, so = some a → ¬ S a.block) : NsAt w' so l := fun i hi => by
  obtain ⟨b, o, e, hc⟩ := h i hi
  refine ⟨b, o, e, fun j v hv => ?_⟩
  have h1 := hc j v hv
  rw [World.cell?_of_block (w := w) (k.block b (World.block_lt_of_cell? w _ h1) (hs _ e))]
  exact h1
theorem pn_names {p : Pw} {S : Nat → Prop} {w : World} {g q kc : Nat} {dv : Value} {ko : Option Addr} (h : PwC S w g dv q ko kc p) : p.names.length ≤ 1000 := by
  have := h.dk.good.len
  unfold Pw.names
  split
  · simp
  · rw [List.length_map]; omega
attribute [local go_sem ↓] ld_man st_man
set_option maxHeartbeats 16000000 in
theorem law_whole (l : List Stp) (lo : Option Addr) (cap : Nat) (w : World) (hl : StAt w lo l) (hlen : l.length ≤ maxLen) (ht : Tab w) :
    Calls Tryz.prog 5 #[.slice lo l.length cap] w fun E w' => E = .returned (.bool true) ∧ Below w.heap.size w w' := by
  have HA := Lib.hid hl
  have HT := Lib.hid ht
  simp only [maxLen] at hlen
  have KN : Hid (Calls Tryz.prog 7 #[.int .i64 100000] w (NewPost 100000 w)) := new_c 100000 w
  clear hl ht
  go_enter Tryz.func5, Tryz.ntmps5
  go_wp2_with fail
  refine KN.out.mono ?_
  rintro R w1 ⟨hb1, (⟨_, _, v, rfl, hd1⟩ | ⟨h1, _⟩)⟩
  rotate_left
  · omega
  obtain ⟨gd, rfl⟩ := hd1.ptr1
  have HD1 := Lib.hid hd1
  have HB1 := Lib.hid hb1
  clear hd1 hb1 KN
  by_cases h12 : 12 < l.length
  · have i12 : (12 : Int) < (l.length : Int) := by omega
    clear h12
    go_wp2_with fail
    refine (awake_c w1 (tab_below HT.out HB1.out)).mono ?_
    rintro R w2 ⟨rfl, hb2⟩
    go_wp2
    go_ret
    exact ⟨rfl, HB1.out.trans (hb2.mono HB1.out.size)⟩
  have i12 : ¬ (12 : Int) < (l.length : Int) := by omega
  go_wp2
  clear i12
  go_loopw [4] (fun i wr => ∃ (k : Nat) (S : Nat → Prop) (a : Option (List UInt8)) (b : Option (List UInt8 × Nat)), k ≤ l.length ∧ i = .int .i64 (k : Int) ∧ Hid (∀ x, S x → w.heap.size ≤ x) ∧ Hid (DkS S wr (.pointer (some ⟨gd, 0, none⟩)) 100000 (dE a b)) ∧ Hid (aFit a ∧ bFit b) ∧ Hid (Below w.heap.size w wr)) (fun i _ => l.length - (intOf i).toNat)
  case atStart => exact ⟨0, _, none, none, Nat.zero_le _, rfl, fun x hx => hx, HD1.out, ⟨fun c h => (by cases h), bFit_none⟩, HB1.out⟩
  case round =>
    obtain ⟨k, S0, a, b, hk, rfl, HS0, HD0, HAB, HB⟩ := hrel
    clear HD1 HB1
    by_cases hlt : k < l.length
    · have hlt1 : (k : Int) < (l.length : Int) := by omega
      obtain ⟨bb, oo, so, sc, co, cc, ko, kc, hlo, hone⟩ := HA.out k hlt
      obtain ⟨s, hs⟩ : ∃ s, s = l[k]'hlt := ⟨_, rfl⟩
      rw [← hs] at hone
      have HO := Lib.hid hone
      subst hlo
      clear hs hone
      obtain ⟨S, hS⟩ : ∃ S : Nat → Prop, S = fun x => S0 x ∧ x < wr.heap.size := ⟨_, rfl⟩
      have HSW := Lib.hid (show ∀ x, S x → w.heap.size ≤ x ∧ x < wr.heap.size from fun x hx => by rw [hS] at hx; exact ⟨HS0.out x hx.1, hx.2⟩)
      have HD := Lib.hid (show DkS S wr (.pointer (some ⟨gd, 0, none⟩)) 100000 (dE a b) from by rw [hS]; exact HD0.out.mono fun x hx h => ⟨h, hx⟩)
      clear hS HS0 HD0
      have oR := HO.out.to HB.out
      have lm := oR.man
      have lk := oR.keep
      obtain ⟨z, hz⟩ : ∃ z, z = fewB s.m := ⟨_, rfl⟩
      have HF := fun W => few_c s.m so sc co cc W oR.m.l1 oR.m.l2
      rw [← hz] at HF
      clear hz
      have hkl := oR.l
      simp only [maxLen] at hkl
      go_wp2_with fail
      refine (HF wr).mono ?_
      rintro R w2 ⟨rfl, hb2⟩
      have HB2 := Lib.hid (HB.out.trans (hb2.mono HB.out.size))
      have HW2 := Lib.hid hb2
      clear HF lm lk hb2
      cases z
      · go_wp2_with fail
        refine (awake_c w2 (tab_below HT.out HB2.out)).mono ?_
        rintro R w3 ⟨rfl, hb3⟩
        go_wp2
        go_ret
        exact ⟨rfl, HB2.out.trans (hb3.mono HB2.out.size)⟩
      have lk2 := (HO.out.to HB2.out).keep
      by_cases h10 : 10 < s.ks.length
      · have i10 : (10 : Int) < (s.ks.length : Int) := by omega
        clear h10
        go_wp2_with fail
        refine (awake_c w2 (tab_below HT.out HB2.out)).mono ?_
        rintro R w3 ⟨rfl, hb3⟩
        go_wp2
        go_ret
        exact ⟨rfl, HB2.out.trans (hb3.mono HB2.out.size)⟩
      have i10 : ¬ (10 : Int) < (s.ks.length : Int) := by omega
      have HKL := Lib.hid (show s.ks.length ≤ 10 by omega)
      clear h10
      go_wp2_with fail
      clear lk2 i10
      refine (loads_c w2 (HD.out.new HW2.out) (tab_below HT.out HB2.out)).mono ?_
      rw [(ld_of a b).1, (ld_of a b).2]
      rintro R w3 ⟨so3, sc3, co3, cc3, rfl, hm3, hb3, hn31, hn32, -⟩
      obtain ⟨was, hwas⟩ : ∃ was, was = lmA a := ⟨_, rfl⟩
      obtain ⟨f, hf⟩ : ∃ f, f = lcA a := ⟨_, rfl⟩
      rw [← hwas] at hm3 ⊢
      rw [← hf]
      have HWF := Lib.hid (And.intro hwas hf)
      clear hwas hf
      have L3 := ((Loc.nil (B := wr.heap.size) (w := wr) (Nat.le_refl _)).to HW2.out).to hb3
      obtain ⟨g5, w5, z5, s5, H5, q5⟩ := L3.newA ty_man #[.int .u64 0, .int .u8 0, .slice none 0 0, .slice none 0 0] (mcs was so3 sc3 co3 cc3) rfl rfl rfl
      have HR5 := Lib.hid H5.be
      have HM5 := Lib.hid (hm3.to (below_of_grown q5))
      have HB5 := Lib.hid (HB.out.trans (H5.be.mono HB.out.size))
      have HN5 := Lib.hid (show (∀ x, so3 = some x → wr.heap.size ≤ x.block) ∧ (∀ x, co3 = some x → wr.heap.size ≤ x.block) from ⟨fun x e => Nat.le_trans HW2.out.size (hn31 x e), fun x e => Nat.le_trans HW2.out.size (hn32 x e)⟩)
      have HG5 := Lib.hid (show wr.heap.size ≤ g5 ∧ Cells w5 g5 34 (mcs was so3 sc3 co3 cc3) from ⟨H5.ge (g5, 34, mcs was so3 sc3 co3 cc3) (List.mem_singleton.2 rfl), H5.get 0 rfl⟩)
      clear hm3 hb3 hn31 hn32 q5 L3 H5
      go_upto_region 10 with fail
      clear s5 z5
      have a1 := fun W (hW : Below w.heap.size w W) => (HO.out.to hW).man
      have a2 := fun W (hW : Below w.heap.size w W) => (HO.out.to hW).fuse
      have a3 := fun W (hW : Below w.heap.size w W) => (HO.out.to hW).keep
      have o0 : Below w.heap.size w w5.drew := HB5.out.drew
      have HD5 := Lib.hid (show DkS S w5.drew (.pointer (some ⟨gd, 0, none⟩)) 100000 (dE a b) from HD.out.new (HR5.out.drew))
      have HM5' := Lib.hid (HM5.out.to (Below.refl _ w5).drew)
      have HG5' := Lib.hid (show Cells w5.drew g5 34 (mcs was so3 sc3 co3 cc3) from HG5.out.2)
      have hRs : wr.heap.size ≤ w5.drew.heap.size := HR5.out.drew.size
      have HRS := Lib.hid hRs
      clear HD HR5 HM5 hRs
      refine wp_region_till (S := fun W => Below w.heap.size w W) (by kernel_rfl) ?_
      generalize w5.drew = wd at *
      refine wpTill_take (i := 0) (v := ?vq1) rfl (by kernel_rfl) (fun _ _ _ h => h) (Or.inl ⟨by rfl, ?hq1⟩) o0 ?rq1
      case hq1 => (intro W hW; (try dsimp only at hW); go_simp; try with_reducible rfl)
      simp only [Act.put, List.setIfInBounds_toArray, List.set_cons_zero, List.set_cons_succ, List.getElem_toArray, List.getElem_cons_succ, List.getElem_cons_zero]
      refine wpTill_take (i := 1) (v := ?vq2) rfl (by kernel_rfl) (fun _ _ _ h => h) (Or.inl ⟨by rfl, ?hq2⟩) o0 ?rq2
      case hq2 => (intro W hW; (try dsimp only at hW); go_simp; try with_reducible rfl)
      simp only [Act.put, List.setIfInBounds_toArray, List.set_cons_zero, List.set_cons_succ, List.getElem_toArray, List.getElem_cons_succ, List.getElem_cons_zero]
      refine wpTill_take (i := 2) (v := ?vq3) rfl (by kernel_rfl) (fun _ _ _ h => h) (Or.inl ⟨by rfl, ?hq3⟩) o0 ?rq3
      case hq3 => (intro W hW; (try dsimp only at hW); go_simp; try with_reducible rfl)
      simp only [Act.put, List.setIfInBounds_toArray, List.set_cons_zero, List.set_cons_succ, List.getElem_toArray, List.getElem_cons_succ, List.getElem_cons_zero]
      refine wpTill_take (i := 3) (v := ?vq4) rfl (by kernel_rfl) (fun _ _ _ h => h) (Or.inl ⟨by rfl, ?hq4⟩) o0 ?rq4
      case hq4 => (intro W hW; (try dsimp only at hW); go_simp; try with_reducible rfl)
      simp only [Act.put, List.setIfInBounds_toArray, List.set_cons_zero, List.set_cons_succ, List.getElem_toArray, List.getElem_cons_succ, List.getElem_cons_zero]
      refine wpTill_take (i := 4) (v := ?vq5) rfl (by kernel_rfl) (fun _ _ _ h => h) (Or.inl ⟨by rfl, ?hq5⟩) o0 ?rq5
      case hq5 => (intro W hW; (try dsimp only at hW); go_simp; try with_reducible rfl)
      simp only [Act.put, List.setIfInBounds_toArray, List.set_cons_zero, List.set_cons_succ, List.getElem_toArray, List.getElem_cons_succ, List.getElem_cons_zero]
      refine wpTill_take (i := 5) (v := ?vq6) rfl (by kernel_rfl) (fun _ _ _ h => h) (Or.inl ⟨by rfl, ?hq6⟩) o0 ?rq6
      case hq6 => (intro W hW; (try dsimp only at hW); go_simp; try with_reducible rfl)
      simp only [Act.put, List.setIfInBounds_toArray, List.set_cons_zero, List.set_cons_succ, List.getElem_toArray, List.getElem_cons_succ, List.getElem_cons_zero]
      refine wpTill_take (i := 6) (v := ?vq7) rfl (by kernel_rfl) (fun _ _ _ h => h) (Or.inl ⟨by rfl, ?hq7⟩) o0 ?rq7
      case hq7 => (intro W hW; (try dsimp only at hW); go_simp; try with_reducible rfl)
      simp only [Act.put, List.setIfInBounds_toArray, List.set_cons_zero, List.set_cons_succ, List.getElem_toArray, List.getElem_cons_succ, List.getElem_cons_zero]
      refine wpTill_take (i := 7) (v := ?vq8) rfl (by kernel_rfl) (fun _ _ _ h => h) (Or.inl ⟨by rfl, ?hq8⟩) o0 ?rq8
      case hq8 => (intro W hW; (try dsimp only at hW); go_simp; try with_reducible rfl)
      simp only [Act.put, List.setIfInBounds_toArray, List.set_cons_zero, List.set_cons_succ, List.getElem_toArray, List.getElem_cons_succ, List.getElem_cons_zero]
      refine wpTill_take (i := 8) (v := ?vq9) rfl (by kernel_rfl) (fun _ _ _ h => h) (Or.inl ⟨by rfl, ?hq9⟩) o0 ?rq9
      case hq9 => (intro W hW; (try dsimp only at hW); go_simp; try with_reducible rfl)
      simp only [Act.put, List.setIfInBounds_toArray, List.set_cons_zero, List.set_cons_succ, List.getElem_toArray, List.getElem_cons_succ, List.getElem_cons_zero]
      refine wpTill_take (i := 9) (v := ?vq10) rfl (by kernel_rfl) (fun _ _ _ h => h) (Or.inl ⟨by rfl, ?hq10⟩) o0 ?rq10
      case hq10 => (intro W hW; (try dsimp only at hW); go_simp; try with_reducible rfl)
      simp only [Act.put, List.setIfInBounds_toArray, List.set_cons_zero, List.set_cons_succ, List.getElem_toArray, List.getElem_cons_succ, List.getElem_cons_zero]
      refine wpTill_take (i := 10) (v := ?vq11) rfl (by kernel_rfl) (fun _ _ _ h => h) (Or.inl ⟨by rfl, ?hq11⟩) o0 ?rq11
      case hq11 => (intro W hW; (try dsimp only at hW); go_simp; try with_reducible rfl)
      simp only [Act.put, List.setIfInBounds_toArray, List.set_cons_zero, List.set_cons_succ, List.getElem_toArray, List.getElem_cons_succ, List.getElem_cons_zero]
      refine wpTill_take (i := 12) (v := ?vq12) rfl (by kernel_rfl) (fun _ _ _ h => h) (Or.inl ⟨by rfl, ?hq12⟩) o0 ?rq12
      case hq12 => (intro W hW; (try dsimp only at hW); go_simp; try with_reducible rfl)
      simp only [Act.put, List.setIfInBounds_toArray, List.set_cons_zero, List.set_cons_succ, List.getElem_toArray, List.getElem_cons_succ, List.getElem_cons_zero]
      refine wpTill_take (i := 13) (v := ?vq13) rfl (by kernel_rfl) (fun _ _ _ h => h) (Or.inl ⟨by rfl, ?hq13⟩) o0 ?rq13
      case hq13 => (intro W hW; (try dsimp only at hW); go_simp; try with_reducible rfl)
      simp only [Act.put, List.setIfInBounds_toArray, List.set_cons_zero, List.set_cons_succ, List.getElem_toArray, List.getElem_cons_succ, List.getElem_cons_zero]
      refine wpTill_take (i := 14) (v := ?vq14) rfl (by kernel_rfl) (fun _ _ _ h => h) (Or.inl ⟨by rfl, ?hq14⟩) o0 ?rq14
      case hq14 => (intro W hW; (try dsimp only at hW); go_simp; try with_reducible rfl)
      simp only [Act.put, List.setIfInBounds_toArray, List.set_cons_zero, List.set_cons_succ, List.getElem_toArray, List.getElem_cons_succ, List.getElem_cons_zero]
      refine wpTill_take (i := 15) (v := ?vq15) rfl (by kernel_rfl) (fun _ _ _ h => h) (Or.inl ⟨by rfl, ?hq15⟩) o0 ?rq15
      case hq15 => (intro W hW; (try dsimp only at hW); go_simp; try with_reducible rfl)
      simp only [Act.put, List.setIfInBounds_toArray, List.set_cons_zero, List.set_cons_succ, List.getElem_toArray, List.getElem_cons_succ, List.getElem_cons_zero]
      refine wpTill_take (i := 16) (v := ?vq16) rfl (by kernel_rfl) (fun _ _ _ h => h) (Or.inl ⟨by rfl, ?hq16⟩) o0 ?rq16
      case hq16 => (intro W hW; (try dsimp only at hW); go_simp; try with_reducible rfl)
      simp only [Act.put, List.setIfInBounds_toArray, List.set_cons_zero, List.set_cons_succ, List.getElem_toArray, List.getElem_cons_succ, List.getElem_cons_zero]
      refine wpTill_run (i := 11) (by kernel_rfl) rfl o0 (fun K hK => ?_)
      go_simp
      go_at_call 10
      refine (pnew_c s.fu ko s.ks kc wd HD5.out (HO.out.to o0).k (by have := HKL.out; omega)).mono ?_
      rintro R w6 ⟨gp, ko6, kc6, rfl, hgp, hko, hp6, hb6⟩
      have hp6' := hp6.mono (S' := fun x => (S x ∧ x < wd.heap.size) ∨ w6.heap.size ≤ x) (fun x hx => ⟨.inl, fun h => h.elim id (fun h => by omega)⟩)
      have HP6 := Lib.hid hp6'
      have o6 := o0.trans (hb6.mono o0.size)
      have HB6 := Lib.hid hb6
      have HGP := Lib.hid hgp
      clear hp6 hp6' hgp hko hb6
      refine hK _ _ ?_
      clear hK K
      refine wpTill_run (i := 17) (by kernel_rfl) rfl o6 (fun K hK => ?_)
      go_simp
      go_at_call 11
      refine (swap_c s.m so sc co cc w6 HP6.out (fun x hx => .inr hx) (HO.out.to o6).m (by show 0 + 5 < _; omega) (pn_names HP6.out) (tab_below HT.out o6)).mono ?_
      rintro R w7 ⟨rfl, hp7, ht7⟩
      obtain ⟨a', b', ha', hb', hE7, hcase⟩ := whole_step (q := 100000) s.m HO.out.m.fit s.fu s.ks a b HAB.out.1 HAB.out.2 (by omega)
      have o7 : Below w.heap.size w w7 := o6.trans (ht7.below (fun x hx hn => by
          have h1 := HB6.out.size
          have h2 := o0.size
          have h3 := HGP.out
          rcases hn with rfl | ⟨h4, _⟩ | h4
          · omega
          · have := HSW.out x h4; omega
          · omega) o6.size)
      have HD7 := Lib.hid (show DkS (fun x => (S x ∧ x < wd.heap.size) ∨ w6.heap.size ≤ x) w7 (.pointer (some ⟨gd, 0, none⟩)) 100000 (dE a' b') from hE7 ▸ hp7.dk)
      have HS7 := Lib.hid (show ∀ x, ((S x ∧ x < wd.heap.size) ∨ w6.heap.size ≤ x) → w.heap.size ≤ x from fun x hx => by
        have h1 := HB6.out.size
        have h2 := o0.size
        rcases hx with ⟨h4, _⟩ | h4
        · exact (HSW.out x h4).1
        · omega)
      have hapart : ∀ x, wr.heap.size ≤ x → x < wd.heap.size → ¬ (x = gp ∨ ((S x ∧ x < wd.heap.size) ∨ w6.heap.size ≤ x)) := fun x h1 h2 hn => by
        have h3 := HB6.out.size
        have h5 := HGP.out
        rcases hn with rfl | ⟨h4, _⟩ | h4
        · omega
        · have := HSW.out x h4; omega
        · omega
      have HG7 := Lib.hid (show Cells w7 g5 34 (mcs was so3 sc3 co3 cc3) from (HG5'.out.below HB6.out HG5'.out.lt).tu ht7 (hapart g5 HG5.out.1 HG5'.out.lt))
      have HM7 := Lib.hid (show MfAt w7 was so3 co3 from ⟨HM5'.out.fit, (by
          by_cases h0 : was.sg = []
          · rw [h0]; exact PsAt.nil _ _
          · exact ps_tu (HM5'.out.ps.to HB6.out) ht7 (fun x e => hapart x.block (HN5.out.1 x e) (HM5'.out.ps.lt h0 x e))), (by
          by_cases h0 : was.ck = []
          · rw [h0]; exact NsAt.nil _ _
          · exact ns_tu (HM5'.out.ns.to HB6.out) ht7 (fun x e => hapart x.block (HN5.out.2 x e) (HM5'.out.ns.lt h0 x e))), HM5'.out.l1, HM5'.out.l2⟩)
      obtain ⟨e, he⟩ : ∃ e : Int, e = ((swE 100000 s.m ⟨s.fu, s.ks, 0, false, dE a b⟩ : Nat) : Int) := ⟨_, rfl⟩
      rw [← he]
      have HCS : Hid ((e = 0 ∧ lcA a' = 0 ∧ lmA a' = s.m) ∨ (e = 4 ∧ a' = a) ∨ (e = 8 ∧ (a' = a ∨ (lcA a' = 0 ∧ lmA a' = s.m)))) := by
        rcases hcase with ⟨h1, h2⟩ | ⟨h1, h2⟩ | ⟨h1, h2⟩
        · exact .inl ⟨by rw [he, h1]; rfl, h2⟩
        · exact .inr (.inl ⟨by rw [he, h1]; rfl, h2⟩)
        · exact .inr (.inr ⟨by rw [he, h1]; rfl, h2⟩)
      have HAB7 := Lib.hid (And.intro ha' hb')
      clear hp7 ht7 hE7 hcase he ha' hb' hapart
      refine hK _ _ ?_
      clear hK K
      refine wpTill_run (i := 18) (by kernel_rfl) rfl o7 (fun K hK => ?_)
      go_simp
      refine hK _ _ ?_
      clear hK K
      refine wpTill_done (by kernel_rfl) ?_
      have HB7 := Lib.hid o7
      clear a1 a2 a3 o0 o6 o7 HP6 HB6 HGP HG5' HM5' HD5 HRS HAB HSW
      go_wp2_with fail
      refine (loads_c w7 HD7.out (tab_below HT.out HB7.out)).mono ?_
      rw [(ld_of a' b').1, (ld_of a' b').2]
      rintro R w8 ⟨so8, sc8, co8, cc8, rfl, hm8, hb8, -⟩
      obtain ⟨now, hnow⟩ : ∃ now, now = lmA a' := ⟨_, rfl⟩
      obtain ⟨g, hg⟩ : ∃ g, g = lcA a' := ⟨_, rfl⟩
      rw [← hnow] at hm8 ⊢
      rw [← hg]
      obtain ⟨bn, hbn⟩ : ∃ bn : Bool, bn = (decide (g = 0) && smB now s.m) := ⟨_, rfl⟩
      obtain ⟨bo, hbo⟩ : ∃ bo : Bool, bo = (decide (g = f) && smB now was) := ⟨_, rfl⟩
      have HCS2 : Hid ((e = 0 ∧ bn = true) ∨ (e = 4 ∧ bo = true) ∨ (e = 8 ∧ (bn = true ∨ bo = true))) := by
        have hold : a' = a → bo = true := fun h => by rw [hbo, hnow, hg, HWF.out.1, HWF.out.2, h]; simp [smB_self]
        have hnew : lcA a' = 0 ∧ lmA a' = s.m → bn = true := fun h => by rw [hbn, hnow, hg, h.1, h.2]; simp [smB_self]
        rcases HCS.out with ⟨h1, h2⟩ | ⟨h1, h2⟩ | ⟨h1, (h2 | h2)⟩
        · exact .inl ⟨h1, hnew h2⟩
        · exact .inr (.inl ⟨h1, hold h2⟩)
        · exact .inr (.inr ⟨h1, .inr (hold h2)⟩)
        · exact .inr (.inr ⟨h1, .inl (hnew h2)⟩)
      clear hnow hg HCS HWF
      have HBN := Lib.hid hbn
      have HBO := Lib.hid hbo
      clear hbn hbo
      have L8 := (Loc.nil (B := w7.heap.size) (w := w7) (Nat.le_refl _)).to hb8
      obtain ⟨g9, w9, z9, s9, H9, q9⟩ := L8.newA ty_man #[.int .u64 0, .int .u8 0, .slice none 0 0, .slice none 0 0] (mcs now so8 sc8 co8 cc8) rfl rfl rfl
      have HR9 := Lib.hid H9.be
      have HM9 := Lib.hid (hm8.to (below_of_grown q9))
      have HW9 := Lib.hid (HM7.out.to H9.be)
      have HC9 := Lib.hid (H9.get 0 rfl)
      have HC5 := Lib.hid (HG7.out.below H9.be HG7.out.lt)
      have HD9 := Lib.hid (HD7.out.new H9.be)
      have HB9 := Lib.hid (HB7.out.trans (H9.be.mono HB7.out.size))
      clear hm8 hb8 q9 L8 H9 HM7 HG7 HD7 HR9
      go_upto_region 12 with fail
      clear s9 z9
      go_cut [10] (fun v wx => v = .bool bn ∧ Hid (Below w9.heap.size w9 wx))
      case first =>
        have a1 := fun W (hW : Below w9.heap.size w9 W) => run_ldA ty_man (HC9.out.below hW HC9.out.lt) 0 (Nat.le_of_ble_eq_true rfl)
        have e1 : ((((mcs now so8 sc8 co8 cc8).toList.drop 0).take 4).toArray) = mcs now so8 sc8 co8 cc8 := rfl
        rw [e1] at a1
        have a2 := fun W (hW : Below w9.heap.size w9 W) => (HO.out.to (HB9.out.trans (hW.mono HB9.out.size))).man
        have o0 : Below w9.heap.size w9 w9.drew := (Below.refl _ w9).drew
        clear e1
        by_cases hg0 : g = 0
        · have hq : (g == 0) = true := by rw [hg0]; rfl
          have E := Lib.hid (show smB now s.m = bn by rw [HBN.out, decide_eq_true hg0]; rfl)
          subst hg0
          refine wp_region_till (S := fun W => Below w9.heap.size w9 W) (by kernel_rfl) ?_
          refine wpTill_take (i := 0) (v := ?vq17) rfl (by kernel_rfl) (fun _ _ _ h => h) (Or.inl ⟨by rfl, ?hq17⟩) o0 ?rq17
          case hq17 => (intro W hW; (try dsimp only at hW); go_simp; try with_reducible rfl)
          simp only [Act.put, List.setIfInBounds_toArray, List.set_cons_zero, List.set_cons_succ, List.getElem_toArray, List.getElem_cons_succ, List.getElem_cons_zero]
          refine wpTill_take (i := 1) (v := ?vq18) rfl (by kernel_rfl) (fun _ _ _ h => h) (Or.inl ⟨by rfl, ?hq18⟩) o0 ?rq18
          case hq18 => (intro W hW; (try dsimp only at hW); go_simp; try with_reducible rfl)
          simp only [Act.put, List.setIfInBounds_toArray, List.set_cons_zero, List.set_cons_succ, List.getElem_toArray, List.getElem_cons_succ, List.getElem_cons_zero]
          refine wpTill_take (i := 2) (v := ?vq19) rfl (by kernel_rfl) (fun _ _ _ h => h) (Or.inl ⟨by rfl, ?hq19⟩) o0 ?rq19
          case hq19 => (intro W hW; (try dsimp only at hW); go_simp; try with_reducible rfl)
          simp only [Act.put, List.setIfInBounds_toArray, List.set_cons_zero, List.set_cons_succ, List.getElem_toArray, List.getElem_cons_succ, List.getElem_cons_zero]
          refine wpTill_take (i := 3) (v := ?vq20) rfl (by kernel_rfl) (fun _ _ _ h => h) (Or.inl ⟨by rfl, ?hq20⟩) o0 ?rq20
          case hq20 => (intro W hW; (try dsimp only at hW); go_simp; try with_reducible rfl)
          simp only [Act.put, List.setIfInBounds_toArray, List.set_cons_zero, List.set_cons_succ, List.getElem_toArray, List.getElem_cons_succ, List.getElem_cons_zero]
          refine wpTill_take (i := 4) (v := ?vq21) rfl (by kernel_rfl) (fun _ _ _ h => h) (Or.inl ⟨by rfl, ?hq21⟩) o0 ?rq21
          case hq21 => (intro W hW; (try dsimp only at hW); go_simp; try with_reducible rfl)
          simp only [Act.put, List.setIfInBounds_toArray, List.set_cons_zero, List.set_cons_succ, List.getElem_toArray, List.getElem_cons_succ, List.getElem_cons_zero]
          refine wpTill_take (i := 5) (v := ?vq22) rfl (by kernel_rfl) (fun _ _ _ h => h) (Or.inl ⟨by rfl, ?hq22⟩) o0 ?rq22
          case hq22 => (intro W hW; (try dsimp only at hW); go_simp; try with_reducible rfl)
          simp only [Act.put, List.setIfInBounds_toArray, List.set_cons_zero, List.set_cons_succ, List.getElem_toArray, List.getElem_cons_succ, List.getElem_cons_zero]
          refine wpTill_take (i := 6) (v := ?vq23) rfl (by kernel_rfl) (fun _ _ _ h => h) (Or.inl ⟨by rfl, ?hq23⟩) o0 ?rq23
          case hq23 => (intro W hW; (try dsimp only at hW); go_simp; try with_reducible rfl)
          simp only [Act.put, List.setIfInBounds_toArray, List.set_cons_zero, List.set_cons_succ, List.getElem_toArray, List.getElem_cons_succ, List.getElem_cons_zero]
          refine wpTill_take (i := 7) (v := ?vq24) rfl (by kernel_rfl) (fun _ _ _ h => h) (Or.inl ⟨by rfl, ?hq24⟩) o0 ?rq24
          case hq24 => (intro W hW; (try dsimp only at hW); go_simp; try with_reducible rfl)
          simp only [Act.put, List.setIfInBounds_toArray, List.set_cons_zero, List.set_cons_succ, List.getElem_toArray, List.getElem_cons_succ, List.getElem_cons_zero]
          refine wpTill_take (i := 8) (v := ?vq25) rfl (by kernel_rfl) (fun _ _ _ h => h) (Or.inl ⟨by rfl, ?hq25⟩) o0 ?rq25
          case hq25 => (intro W hW; (try dsimp only at hW); go_simp; try with_reducible rfl)
          simp only [Act.put, List.setIfInBounds_toArray, List.set_cons_zero, List.set_cons_succ, List.getElem_toArray, List.getElem_cons_succ, List.getElem_cons_zero]
          refine wpTill_run (i := 9) (by kernel_rfl) rfl o0 (fun K hK => ?_)
          go_simp
          go_at_call 27
          refine (same_c now s.m so8 sc8 co8 cc8 so sc co cc _ (HM9.out.to o0) (HO.out.to (HB9.out.trans (o0.mono HB9.out.size))).m).mono ?_
          rintro R w10 ⟨rfl, hb10⟩
          rw [E.out]
          have o1 := o0.trans (hb10.mono o0.size)
          refine hK _ _ ?_
          clear hK K
          refine wpTill_run (i := 10) (by kernel_rfl) rfl o1 (fun K hK => ?_)
          go_simp
          refine hK _ _ ?_
          clear hK K
          refine wpTill_run (i := 11) (by kernel_rfl) rfl o1 (fun K hK => ?_)
          go_simp
          refine hK _ _ ?_
          clear hK K
          refine wpTill_done (by kernel_rfl) ?_
          go_wp2_with fail
          go_meet
          exact ⟨rfl, o1⟩
        · have hq : (g == 0) = false := beq_eq_false_iff_ne.2 hg0
          have E := Lib.hid (show bn = false by rw [HBN.out, decide_eq_false hg0]; rfl)
          refine wp_region_till (S := fun W => Below w9.heap.size w9 W) (by kernel_rfl) ?_
          refine wpTill_take (i := 0) (v := ?vq26) rfl (by kernel_rfl) (fun _ _ _ h => h) (Or.inl ⟨by rfl, ?hq26⟩) o0 ?rq26
          case hq26 => (intro W hW; (try dsimp only at hW); go_simp; try with_reducible rfl)
          simp only [Act.put, List.setIfInBounds_toArray, List.set_cons_zero, List.set_cons_succ, List.getElem_toArray, List.getElem_cons_succ, List.getElem_cons_zero]
          refine wpTill_take (i := 1) (v := ?vq27) rfl (by kernel_rfl) (fun _ _ _ h => h) (Or.inl ⟨by rfl, ?hq27⟩) o0 ?rq27
          case hq27 => (intro W hW; (try dsimp only at hW); go_simp; try with_reducible rfl)
          simp only [Act.put, List.setIfInBounds_toArray, List.set_cons_zero, List.set_cons_succ, List.getElem_toArray, List.getElem_cons_succ, List.getElem_cons_zero]
          refine wpTill_take (i := 2) (v := ?vq28) rfl (by kernel_rfl) (fun _ _ _ h => h) (Or.inl ⟨by rfl, ?hq28⟩) o0 ?rq28
          case hq28 => (intro W hW; (try dsimp only at hW); go_simp; try with_reducible rfl)
          simp only [Act.put, List.setIfInBounds_toArray, List.set_cons_zero, List.set_cons_succ, List.getElem_toArray, List.getElem_cons_succ, List.getElem_cons_zero]
          refine wpTill_take (i := 3) (v := undef) rfl (by kernel_rfl) (fun _ _ _ h => h) (Or.inr ⟨by rfl, rfl⟩) o0 ?rq29
          simp only [Act.put, List.setIfInBounds_toArray, List.set_cons_zero, List.set_cons_succ, List.getElem_toArray, List.getElem_cons_succ, List.getElem_cons_zero]
          refine wpTill_take (i := 4) (v := undef) rfl (by kernel_rfl) (fun _ _ _ h => h) (Or.inr ⟨by rfl, rfl⟩) o0 ?rq30
          simp only [Act.put, List.setIfInBounds_toArray, List.set_cons_zero, List.set_cons_succ, List.getElem_toArray, List.getElem_cons_succ, List.getElem_cons_zero]
          refine wpTill_take (i := 5) (v := undef) rfl (by kernel_rfl) (fun _ _ _ h => h) (Or.inr ⟨by rfl, rfl⟩) o0 ?rq31
          simp only [Act.put, List.setIfInBounds_toArray, List.set_cons_zero, List.set_cons_succ, List.getElem_toArray, List.getElem_cons_succ, List.getElem_cons_zero]
          refine wpTill_take (i := 6) (v := undef) rfl (by kernel_rfl) (fun _ _ _ h => h) (Or.inr ⟨by rfl, rfl⟩) o0 ?rq32
          simp only [Act.put, List.setIfInBounds_toArray, List.set_cons_zero, List.set_cons_succ, List.getElem_toArray, List.getElem_cons_succ, List.getElem_cons_zero]
          refine wpTill_take (i := 7) (v := undef) rfl (by kernel_rfl) (fun _ _ _ h => h) (Or.inr ⟨by rfl, rfl⟩) o0 ?rq33
          simp only [Act.put, List.setIfInBounds_toArray, List.set_cons_zero, List.set_cons_succ, List.getElem_toArray, List.getElem_cons_succ, List.getElem_cons_zero]
          refine wpTill_take (i := 8) (v := undef) rfl (by kernel_rfl) (fun _ _ _ h => h) (Or.inr ⟨by rfl, rfl⟩) o0 ?rq34
          simp only [Act.put, List.setIfInBounds_toArray, List.set_cons_zero, List.set_cons_succ, List.getElem_toArray, List.getElem_cons_succ, List.getElem_cons_zero]
          refine wpTill_take (i := 9) (v := undef) rfl (by kernel_rfl) (fun _ _ _ h => h) (Or.inr ⟨by rfl, rfl⟩) o0 ?rq35
          simp only [Act.put, List.setIfInBounds_toArray, List.set_cons_zero, List.set_cons_succ, List.getElem_toArray, List.getElem_cons_succ, List.getElem_cons_zero]
          refine wpTill_take (i := 10) (v := ?vq36) rfl (by kernel_rfl) (fun _ _ _ h => h) (Or.inl ⟨by rfl, ?hq36⟩) o0 ?rq36
          case hq36 => (intro W hW; (try dsimp only at hW); go_simp; try with_reducible rfl)
          simp only [Act.put, List.setIfInBounds_toArray, List.set_cons_zero, List.set_cons_succ, List.getElem_toArray, List.getElem_cons_succ, List.getElem_cons_zero]
          refine wpTill_run (i := 11) (by kernel_rfl) rfl o0 (fun K hK => ?_)
          go_simp
          refine hK _ _ ?_
          clear hK K
          refine wpTill_done (by kernel_rfl) ?_
          go_wp2_with fail
          go_meet
          exact ⟨by rw [E.out], o0⟩
      case rest =>
      obtain ⟨rfl, HB10⟩ := hcut
      have HM10 := Lib.hid (HM9.out.to HB10.out)
      have HW10 := Lib.hid (HW9.out.to HB10.out)
      have c9 := run_ldA ty_man (HC9.out.below HB10.out HC9.out.lt) 0 (Nat.le_of_ble_eq_true rfl)
      have e1 : ((((mcs now so8 sc8 co8 cc8).toList.drop 0).take 4).toArray) = mcs now so8 sc8 co8 cc8 := rfl
      rw [e1] at c9
      have c5 := run_ldA ty_man (HC5.out.below HB10.out HC5.out.lt) 0 (Nat.le_of_ble_eq_true rfl)
      have e2 : ((((mcs was so3 sc3 co3 cc3).toList.drop 0).take 4).toArray) = mcs was so3 sc3 co3 cc3 := rfl
      rw [e2] at c5
      clear e1 e2 HM9 HW9
      go_upto_region 13 with fail
      go_cut [11] (fun v wx => v = .bool bo ∧ Hid (Below w9.heap.size w9 wx))
      case first =>
        by_cases hgf : g = f
        · have hq : (g == f) = true := by rw [hgf]; exact beq_self_eq_true _
          have E := Lib.hid (show smB now was = bo by rw [HBO.out, decide_eq_true hgf]; rfl)
          clear hgf
          go_wp2_with fail
          refine (same_c now was so8 sc8 co8 cc8 so3 sc3 co3 cc3 _ HM10.out HW10.out).mono ?_
          rintro R w11 ⟨rfl, hb11⟩
          rw [E.out]
          go_wp2_with fail
          go_meet
          exact ⟨rfl, HB10.out.trans (hb11.mono HB10.out.size)⟩
        · have hq : (g == f) = false := beq_eq_false_iff_ne.2 hgf
          have E := Lib.hid (show bo = false by rw [HBO.out, decide_eq_false hgf]; rfl)
          clear hgf
          go_wp2_with fail
          go_meet
          exact ⟨by rw [E.out], HB10.out⟩
      case rest =>
      obtain ⟨rfl, HB11⟩ := hcut
      clear c9 c5 HM10 HW10 HB10
      go_upto_region 14 with fail
      go_cut [128] (fun v wx => v = .bool false ∧ Hid (Below w9.heap.size w9 wx))
      case first =>
        rcases HCS2.out with ⟨rfl, rfl⟩ | ⟨rfl, rfl⟩ | ⟨rfl, (rfl | rfl)⟩
        · cases bo
          all_goals
            go_wp2_with fail
            go_meet
            exact ⟨rfl, HB11.out⟩
        · cases bn
          all_goals
            go_wp2_with fail
            go_meet
            exact ⟨rfl, HB11.out⟩
        · cases bo
          all_goals
            go_wp2_with fail
            go_meet
            exact ⟨rfl, HB11.out⟩
        · cases bn
          all_goals
            go_wp2_with fail
            go_meet
            exact ⟨rfl, HB11.out⟩
      case rest =>
      obtain ⟨rfl, HB12⟩ := hcut
      have HD11 := Lib.hid (HD9.out.new HB12.out)
      have HBL := Lib.hid (HB9.out.trans (HB12.out.mono HB9.out.size))
      go_wp2
      go_roundw
      case rel => exact ⟨k + 1, _, a', b', by omega, by go_num, HS7.out, HD11.out, HAB7.out, HBL.out⟩
      case measure => simp [intOf]; omega
    · have hlt1 : ¬ (k : Int) < (l.length : Int) := by omega
      go_wp2_with fail
      refine (awake_c wr (tab_below HT.out HB.out)).mono ?_
      rintro R w2 ⟨rfl, hb2⟩
      go_wp2
      go_ret
      exact ⟨rfl, HB.out.trans (hb2.mono HB.out.size)⟩
theorem rowWhole (lo : Option Addr) (len cap : Nat) (l : List Stp) (W : World) (h : StArg W lo len l) (hL : laidMetH Tryz.prog laidList W) :
    Calls Tryz.prog 5 #[.slice lo len cap] W fun E w' => E = .returned (.bool true) ∧ Below W.heap.size W w' := by
  obtain ⟨rfl, h1, h2⟩ := h
  exact law_whole l lo cap W h2 h1 (tab_of_laid hL)
end Go.Proofs.YtakejacamkdncaaGreatDoor
