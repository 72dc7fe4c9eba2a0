/- Texts of the walk. -/
import Derived.Test.YtgeaacabpnepmaaGreatDoorCz8
import Derived.Test.YtgeaacabpnepmaaGreatDoorKa8
import Derived.Test.YtgeaacabpnepmaaGreatDoorPj8
import Derived.Test.YtgeaacabpnepmaaGreatDoorNz8
import Derived.StillTailTactics
/- Swap, by the program: its steps, the steps in turn, the whole. -/
namespace Go.Proofs.YtgeaacabpnepmaaGreatDoor
open Go.RowKit
set_option linter.unusedVariables false
set_option linter.unusedSimpArgs false
set_option maxRecDepth 20000

def IxPost (l : List (List UInt8)) (n : List UInt8) (w : World) (R : Ending) (w' : World) : Prop := w = w' ∧ ((n ∉ l ∧ R = .returned (.int .i64 (-1))) ∨ (n ∈ l ∧ ∃ k : Nat, k < l.length ∧ R = .returned (.int .i64 (k : Int))))
set_option maxHeartbeats 1000000 in
theorem mindex_c (l : List (List UInt8)) (n : List UInt8) {B : Nat} {v : Value} (w : World) (h : Lst w B v l) (hl : l.length ≤ 1000) :
    Calls Tryz.prog 174 #[v, .string (str n)] w (IxPost l n w) := by
  obtain ⟨uo, uc, rfl⟩ := h.sl
  have HA := Lib.hid h
  obtain ⟨Q, hQ⟩ : ∃ Q, Q = IxPost l n w := ⟨_, rfl⟩
  rw [← hQ]
  have HQ := Lib.hid hQ
  clear hQ h
  go_enter Tryz.func174, Tryz.ntmps174
  go_wp2
  go_loop [8] (fun i => ∃ k : Nat, k ≤ l.length ∧ i = .int .i64 (k : Int) ∧ Hid (∀ j (hj : j < k) (hl : j < l.length), l[j]'hl ≠ n)) (fun i => l.length - (intOf i).toNat)
  case atStart => exact ⟨0, Nat.zero_le _, rfl, fun j hj => by omega⟩
  case round =>
    obtain ⟨k, hk, rfl, HK⟩ := hrel
    by_cases hlt : k < l.length
    · have hlt1 : (k : Int) < (l.length : Int) := by omega
      obtain ⟨g, cp, e, hc⟩ := HA.out.at hlt
      have e1 : uo = some ⟨g, 0, none⟩ := by injection e
      subst e1
      rw [Nat.zero_add] at hc
      by_cases hx : l[k]'hlt = n
      · have hq1 := str_yes2' n
        rw [hx] at hc
        go_wp2_with fail
        rw [HQ.out]
        exact ⟨rfl, .inr ⟨hx ▸ List.getElem_mem hlt, k, hlt, rfl⟩⟩
      · have hq1 := str_no2' (Ne.symm hx)
        have HX := Lib.hid hx
        go_wp2
        go_round
        case rel =>
          refine ⟨k + 1, by omega, by go_num, fun j hj hl => ?_⟩
          by_cases hjk : j = k
          · subst hjk; exact HX.out
          · exact HK.out j (by omega) hl
        case measure => simp [intOf]; omega
    · have hlt1 : ¬ (k : Int) < (l.length : Int) := by omega
      go_wp2_with fail
      rw [HQ.out]
      refine ⟨rfl, .inl ⟨fun hm => ?_, rfl⟩⟩
      obtain ⟨j, hj, rfl⟩ := List.getElem_of_mem hm
      exact HK.out j (by omega) hj rfl
theorem contains_c (l : List (List UInt8)) (n : List UInt8) {B : Nat} {v : Value} (w : World) (h : Lst w B v l) (hl : l.length ≤ 1000) :
    Calls Tryz.prog 122 #[v, .string (str n)] w fun R w' => R = .returned (.bool (decide (n ∈ l))) ∧ w = w' := by
  have HI := Lib.hid (mindex_c l n w h hl)
  clear h
  by_cases hm : n ∈ l
  · rw [decide_eq_true hm]
    go_enter Tryz.func122, Tryz.ntmps122
    go_wp2_with fail
    refine HI.out.mono ?_
    rintro R w1 ⟨rfl, (⟨h1, _⟩ | ⟨_, k, hk, rfl⟩)⟩
    · exact absurd hm h1
    · go_wp2
      go_ret
      exact ⟨by simp, rfl⟩
  · rw [decide_eq_false hm]
    go_enter Tryz.func122, Tryz.ntmps122
    go_wp2_with fail
    refine HI.out.mono ?_
    rintro R w1 ⟨rfl, (⟨_, rfl⟩ | ⟨h1, _⟩)⟩
    · go_wp2
      go_ret
      exact ⟨rfl, rfl⟩
    · exact absurd h1 hm

structure Sx (S : Nat → Prop) (w : World) (g gs gl : Nat) (t : List UInt8) : Prop where
  s : Cells w gs 247 #[.pointer (some ⟨g, 0, none⟩), .string (str nN), .string (str t)]
  l : Cells w gl 57 #[.func (.func 168) #[.pointer (some ⟨gs, 0, none⟩)] #[], .func (.func 169) #[.pointer (some ⟨gs, 0, none⟩)] #[], .func (.func 170) #[.pointer (some ⟨gs, 0, none⟩)] #[], .func (.func 171) #[.pointer (some ⟨gs, 0, none⟩)] #[], .func (.func 172) #[.pointer (some ⟨gs, 0, none⟩)] #[]]
  n : ∀ x, x = gs ∨ x = gl → ¬ (x = g ∨ S x)
theorem Sx.tu {S : Nat → Prop} {w w' : World} {g gs gl : Nat} {t : List UInt8} (h : Sx S w g gs gl t) (k : Tu (fun x => x = g ∨ S x) w w') : Sx S w' g gs gl t :=
  ⟨h.s.tu k (h.n _ (.inl rfl)), h.l.tu k (h.n _ (.inr rfl)), h.n⟩
def StPost (S : Nat → Prop) (w : World) (g : Nat) (dv : Value) (q : Nat) (ko : Option Addr) (kc : Nat) (t : List UInt8) (p : Pw) (j : Nat) (R : Ending) (w' : World) : Prop :=
  R = .returned (.int .i64 (stC q t p j : Nat)) ∧ PwC S w' g dv q ko kc (stP q t p j) ∧ Tu (fun x => x = g ∨ S x) w w'
theorem tu_drawn {S : Nat → Prop} {w w' : World} (h : Tu S ({ w with drawn := w.drawn + 1 } : World) w') : Tu S w w' := ⟨h.os, h.tape, h.output, h.size, h.block⟩
theorem pw_drawn {S : Nat → Prop} {w : World} {g q kc : Nat} {dv : Value} {ko : Option Addr} {p : Pw} (h : PwC S w g dv q ko kc p) : PwC S ({ w with drawn := w.drawn + 1 } : World) g dv q ko kc p := h.new (Below.refl _ w).drew
section
variable {S : Nat → Prop} {g q gs gl : Nat} {dv : Value} {kc : Nat} {ko : Option Addr} {p : Pw}
theorem create_s (t : List UInt8) (w : World) (hx : Sx S w g gs gl t) (h : PwC S w g dv q ko kc p) (hS : ∀ x, w.heap.size ≤ x → S x) (hl : t.length ≤ maxLen) (hp : p.n < 1000000) :
    Calls Tryz.prog 169 #[.pointer (some ⟨gs, 0, none⟩)] w (StPost S w g dv q ko kc t p 1) := by
  have c0 : ({ w with drawn := w.drawn + 1 } : World).cell? ⟨gs, 0, none⟩ = some (.pointer (some ⟨g, 0, none⟩)) := hx.s.cell 0
  have c1 : ({ w with drawn := w.drawn + 1 } : World).cell? ⟨gs, 1, none⟩ = some (.string (str nN)) := hx.s.cell 1
  have c2 : ({ w with drawn := w.drawn + 1 } : World).cell? ⟨gs, 2, none⟩ = some (.string (str t)) := hx.s.cell 2
  have HP := Lib.hid (pw_drawn h)
  have HK : Hid (∀ R w', StPost S ({ w with drawn := w.drawn + 1 } : World) g dv q ko kc t p 1 R w' → StPost S w g dv q ko kc t p 1 R w') := fun R w' k => ⟨k.1, k.2.1, tu_drawn k.2.2⟩
  have HSS : Hid (∀ x, ({ w with drawn := w.drawn + 1 } : World).heap.size ≤ x → S x) := hS
  obtain ⟨Q, hQ⟩ : ∃ Q, Q = StPost S w g dv q ko kc t p 1 := ⟨_, rfl⟩
  rw [← hQ] at HK ⊢
  clear hQ hx h hS
  go_enter Tryz.func169, Tryz.ntmps169
  go_upto_region 1 with fail
  obtain ⟨wd, hwd⟩ : ∃ wd, ({ w with drawn := w.drawn + 1 } : World) = wd := ⟨_, rfl⟩
  rw [hwd] at c0 c1 c2 HP HK HSS
  refine wp_region_still_tail 8 (by kernel_rfl) (by kernel_rfl) ?_
  simp only [List.take_succ_cons, List.take_zero, List.drop_succ_cons, List.drop_zero]
  rw [hwd]
  clear hwd
  repeat still_step
  refine wpStill_nil ?_
  go_wp2_with fail
  refine (pcreate_c nN [] wd HP.out HSS.out (by decide) (by simp) hp).mono ?_
  rintro R w1 ⟨rfl, hp1, ht1⟩
  have H9 := Lib.hid (HK.out _ _ ⟨rfl, hp1, ht1⟩)
  clear hp1 ht1
  go_wp2
  exact H9.out
theorem fill_s (t : List UInt8) (w : World) (hx : Sx S w g gs gl t) (h : PwC S w g dv q ko kc p) (hS : ∀ x, w.heap.size ≤ x → S x) (hl : t.length ≤ maxLen) (hp : p.n < 1000000) :
    Calls Tryz.prog 170 #[.pointer (some ⟨gs, 0, none⟩)] w (StPost S w g dv q ko kc t p 2) := by
  have c0 : ({ w with drawn := w.drawn + 1 } : World).cell? ⟨gs, 0, none⟩ = some (.pointer (some ⟨g, 0, none⟩)) := hx.s.cell 0
  have c1 : ({ w with drawn := w.drawn + 1 } : World).cell? ⟨gs, 1, none⟩ = some (.string (str nN)) := hx.s.cell 1
  have c2 : ({ w with drawn := w.drawn + 1 } : World).cell? ⟨gs, 2, none⟩ = some (.string (str t)) := hx.s.cell 2
  have HP := Lib.hid (pw_drawn h)
  have HK : Hid (∀ R w', StPost S ({ w with drawn := w.drawn + 1 } : World) g dv q ko kc t p 2 R w' → StPost S w g dv q ko kc t p 2 R w') := fun R w' k => ⟨k.1, k.2.1, tu_drawn k.2.2⟩
  have HSS : Hid (∀ x, ({ w with drawn := w.drawn + 1 } : World).heap.size ≤ x → S x) := hS
  obtain ⟨Q, hQ⟩ : ∃ Q, Q = StPost S w g dv q ko kc t p 2 := ⟨_, rfl⟩
  rw [← hQ] at HK ⊢
  clear hQ hx h hS
  go_enter Tryz.func170, Tryz.ntmps170
  go_upto_region 1 with fail
  obtain ⟨wd, hwd⟩ : ∃ wd, ({ w with drawn := w.drawn + 1 } : World) = wd := ⟨_, rfl⟩
  rw [hwd] at c0 c1 c2 HP HK HSS
  refine wp_region_still_tail 12 (by kernel_rfl) (by kernel_rfl) ?_
  simp only [List.take_succ_cons, List.take_zero, List.drop_succ_cons, List.drop_zero]
  rw [hwd]
  clear hwd
  repeat still_step
  refine wpStill_nil ?_
  go_wp2_with fail
  refine (pappend_c nN t wd HP.out HSS.out (by decide) hl hp).mono ?_
  rintro R w1 ⟨rfl, hp1, ht1⟩
  have H9 := Lib.hid (HK.out _ _ ⟨rfl, hp1, ht1⟩)
  clear hp1 ht1
  go_wp2
  exact H9.out
theorem sync_s (t : List UInt8) (w : World) (hx : Sx S w g gs gl t) (h : PwC S w g dv q ko kc p) (hS : ∀ x, w.heap.size ≤ x → S x) (hl : t.length ≤ maxLen) (hp : p.n < 1000000) :
    Calls Tryz.prog 171 #[.pointer (some ⟨gs, 0, none⟩)] w (StPost S w g dv q ko kc t p 3) := by
  have c0 : ({ w with drawn := w.drawn + 1 } : World).cell? ⟨gs, 0, none⟩ = some (.pointer (some ⟨g, 0, none⟩)) := hx.s.cell 0
  have c1 : ({ w with drawn := w.drawn + 1 } : World).cell? ⟨gs, 1, none⟩ = some (.string (str nN)) := hx.s.cell 1
  have c2 : ({ w with drawn := w.drawn + 1 } : World).cell? ⟨gs, 2, none⟩ = some (.string (str t)) := hx.s.cell 2
  have HP := Lib.hid (pw_drawn h)
  have HK : Hid (∀ R w', StPost S ({ w with drawn := w.drawn + 1 } : World) g dv q ko kc t p 3 R w' → StPost S w g dv q ko kc t p 3 R w') := fun R w' k => ⟨k.1, k.2.1, tu_drawn k.2.2⟩
  have HSS : Hid (∀ x, ({ w with drawn := w.drawn + 1 } : World).heap.size ≤ x → S x) := hS
  obtain ⟨Q, hQ⟩ : ∃ Q, Q = StPost S w g dv q ko kc t p 3 := ⟨_, rfl⟩
  rw [← hQ] at HK ⊢
  clear hQ hx h hS
  go_enter Tryz.func171, Tryz.ntmps171
  go_upto_region 1 with fail
  obtain ⟨wd, hwd⟩ : ∃ wd, ({ w with drawn := w.drawn + 1 } : World) = wd := ⟨_, rfl⟩
  rw [hwd] at c0 c1 c2 HP HK HSS
  refine wp_region_still_tail 8 (by kernel_rfl) (by kernel_rfl) ?_
  simp only [List.take_succ_cons, List.take_zero, List.drop_succ_cons, List.drop_zero]
  rw [hwd]
  clear hwd
  repeat still_step
  refine wpStill_nil ?_
  go_wp2_with fail
  refine (psync_c nN [] wd HP.out HSS.out (by decide) (by simp) hp).mono ?_
  rintro R w1 ⟨rfl, hp1, ht1⟩
  have H9 := Lib.hid (HK.out _ _ ⟨rfl, hp1, ht1⟩)
  clear hp1 ht1
  go_wp2
  exact H9.out
theorem rename_s (t : List UInt8) (w : World) (hx : Sx S w g gs gl t) (h : PwC S w g dv q ko kc p) (hS : ∀ x, w.heap.size ≤ x → S x) (hl : t.length ≤ maxLen) (hp : p.n < 1000000) :
    Calls Tryz.prog 172 #[.pointer (some ⟨gs, 0, none⟩)] w (StPost S w g dv q ko kc t p 4) := by
  have c0 : ({ w with drawn := w.drawn + 1 } : World).cell? ⟨gs, 0, none⟩ = some (.pointer (some ⟨g, 0, none⟩)) := hx.s.cell 0
  have c1 : ({ w with drawn := w.drawn + 1 } : World).cell? ⟨gs, 1, none⟩ = some (.string (str nN)) := hx.s.cell 1
  have c2 : ({ w with drawn := w.drawn + 1 } : World).cell? ⟨gs, 2, none⟩ = some (.string (str t)) := hx.s.cell 2
  have HP := Lib.hid (pw_drawn h)
  have HK : Hid (∀ R w', StPost S ({ w with drawn := w.drawn + 1 } : World) g dv q ko kc t p 4 R w' → StPost S w g dv q ko kc t p 4 R w') := fun R w' k => ⟨k.1, k.2.1, tu_drawn k.2.2⟩
  have HSS : Hid (∀ x, ({ w with drawn := w.drawn + 1 } : World).heap.size ≤ x → S x) := hS
  obtain ⟨Q, hQ⟩ : ∃ Q, Q = StPost S w g dv q ko kc t p 4 := ⟨_, rfl⟩
  rw [← hQ] at HK ⊢
  clear hQ hx h hS
  go_enter Tryz.func172, Tryz.ntmps172
  go_upto_region 1 with fail
  obtain ⟨wd, hwd⟩ : ∃ wd, ({ w with drawn := w.drawn + 1 } : World) = wd := ⟨_, rfl⟩
  rw [hwd] at c0 c1 c2 HP HK HSS
  refine wp_region_still_tail 8 (by kernel_rfl) (by kernel_rfl) ?_
  simp only [List.take_succ_cons, List.take_zero, List.drop_succ_cons, List.drop_zero]
  rw [hwd]
  clear hwd
  repeat still_step
  refine wpStill_nil ?_
  go_wp2_with fail
  refine (prename_c nN nM wd HP.out HSS.out (by decide) (by decide) hp).mono ?_
  rintro R w1 ⟨rfl, hp1, ht1⟩
  have H9 := Lib.hid (HK.out _ _ ⟨rfl, hp1, ht1⟩)
  clear hp1 ht1
  go_wp2
  exact H9.out
theorem clear_s (t : List UInt8) (w : World) (hx : Sx S w g gs gl t) (h : PwC S w g dv q ko kc p) (hS : ∀ x, w.heap.size ≤ x → S x) (hl : t.length ≤ maxLen) (hp : p.n < 1000000) (hE : p.names.length ≤ 1000) :
    Calls Tryz.prog 168 #[.pointer (some ⟨gs, 0, none⟩)] w (StPost S w g dv q ko kc t p 0) := by
  have c0 : ∀ W, Below w.heap.size w W → W.cell? ⟨gs, 0, none⟩ = some (.pointer (some ⟨g, 0, none⟩)) := fun W hW => (hx.s.below hW hx.s.lt).cell 0
  have c1 : ∀ W, Below w.heap.size w W → W.cell? ⟨gs, 1, none⟩ = some (.string (str nN)) := fun W hW => (hx.s.below hW hx.s.lt).cell 1
  have HP := Lib.hid h
  have HSS := Lib.hid hS
  have HEL := Lib.hid hE
  obtain ⟨Q, hQ⟩ : ∃ Q, Q = StPost S w g dv q ko kc t p 0 := ⟨_, rfl⟩
  rw [← hQ]
  have HQ := Lib.hid hQ
  clear hQ hx h hS hE
  have o0 : Below w.heap.size w w.drew := (Below.refl _ w).drew
  go_enter Tryz.func168, Tryz.ntmps168
  go_upto_region 1 with fail
  refine wp_region_till (S := fun W => Below w.heap.size w W) (by kernel_rfl) ?_
  refine wpTill_take (i := 0) (v := ?vq1) rfl (by kernel_rfl) (fun _ _ _ h => h) (Or.inl ⟨by rfl, ?hq1⟩) o0 ?rq1
  case hq1 => (intro W hW; (try dsimp only at hW); go_simp; try with_reducible rfl)
  simp only [Act.put, List.setIfInBounds_toArray, List.set_cons_zero, List.set_cons_succ, List.getElem_toArray, List.getElem_cons_succ, List.getElem_cons_zero]
  refine wpTill_take (i := 1) (v := ?vq2) rfl (by kernel_rfl) (fun _ _ _ h => h) (Or.inl ⟨by rfl, ?hq2⟩) o0 ?rq2
  case hq2 => (intro W hW; (try dsimp only at hW); go_simp; try with_reducible rfl)
  simp only [Act.put, List.setIfInBounds_toArray, List.set_cons_zero, List.set_cons_succ, List.getElem_toArray, List.getElem_cons_succ, List.getElem_cons_zero]
  refine wpTill_take (i := 2) (v := ?vq3) rfl (by kernel_rfl) (fun _ _ _ h => h) (Or.inl ⟨by rfl, ?hq3⟩) o0 ?rq3
  case hq3 => (intro W hW; (try dsimp only at hW); go_simp; try with_reducible rfl)
  simp only [Act.put, List.setIfInBounds_toArray, List.set_cons_zero, List.set_cons_succ, List.getElem_toArray, List.getElem_cons_succ, List.getElem_cons_zero]
  refine wpTill_take (i := 3) (v := ?vq4) rfl (by kernel_rfl) (fun _ _ _ h => h) (Or.inl ⟨by rfl, ?hq4⟩) o0 ?rq4
  case hq4 => (intro W hW; (try dsimp only at hW); go_simp; try with_reducible rfl)
  simp only [Act.put, List.setIfInBounds_toArray, List.set_cons_zero, List.set_cons_succ, List.getElem_toArray, List.getElem_cons_succ, List.getElem_cons_zero]
  refine wpTill_take (i := 5) (v := ?vq5) rfl (by kernel_rfl) (fun _ _ _ h => h) (Or.inl ⟨by rfl, ?hq5⟩) o0 ?rq5
  case hq5 => (intro W hW; (try dsimp only at hW); go_simp; try with_reducible rfl)
  simp only [Act.put, List.setIfInBounds_toArray, List.set_cons_zero, List.set_cons_succ, List.getElem_toArray, List.getElem_cons_succ, List.getElem_cons_zero]
  refine wpTill_take (i := 6) (v := ?vq6) rfl (by kernel_rfl) (fun _ _ _ h => h) (Or.inl ⟨by rfl, ?hq6⟩) o0 ?rq6
  case hq6 => (intro W hW; (try dsimp only at hW); go_simp; try with_reducible rfl)
  simp only [Act.put, List.setIfInBounds_toArray, List.set_cons_zero, List.set_cons_succ, List.getElem_toArray, List.getElem_cons_succ, List.getElem_cons_zero]
  refine wpTill_take (i := 7) (v := ?vq7) rfl (by kernel_rfl) (fun _ _ _ h => h) (Or.inl ⟨by rfl, ?hq7⟩) o0 ?rq7
  case hq7 => (intro W hW; (try dsimp only at hW); go_simp; try with_reducible rfl)
  simp only [Act.put, List.setIfInBounds_toArray, List.set_cons_zero, List.set_cons_succ, List.getElem_toArray, List.getElem_cons_succ, List.getElem_cons_zero]
  refine wpTill_take (i := 8) (v := ?vq8) rfl (by kernel_rfl) (fun _ _ _ h => h) (Or.inl ⟨by rfl, ?hq8⟩) o0 ?rq8
  case hq8 => (intro W hW; (try dsimp only at hW); go_simp; try with_reducible rfl)
  simp only [Act.put, List.setIfInBounds_toArray, List.set_cons_zero, List.set_cons_succ, List.getElem_toArray, List.getElem_cons_succ, List.getElem_cons_zero]
  refine wpTill_run (i := 4) (by kernel_rfl) rfl o0 (fun K hK => ?_)
  go_simp
  go_at_call 121
  refine (plist_c _ (HP.out.new o0)).mono ?_
  rintro R w1 ⟨u, rfl, hu, hb1⟩
  have HU := Lib.hid hu
  clear hu
  have o1 := o0.trans (hb1.mono o0.size)
  refine hK _ _ ?_
  clear hK K
  refine wpTill_run (i := 9) (by kernel_rfl) rfl o1 (fun K hK => ?_)
  go_simp
  go_at_call 122
  refine (contains_c p.names nN w1 HU.out HEL.out).mono ?_
  rintro R w2 ⟨rfl, rfl⟩
  refine hK _ _ ?_
  clear hK K
  refine wpTill_run (i := 10) (by kernel_rfl) rfl o1 (fun K hK => ?_)
  go_simp
  refine hK _ _ ?_
  clear hK K
  refine wpTill_done (by kernel_rfl) ?_
  have O1 := Lib.hid o1
  by_cases hm : nN ∈ p.names
  · have HM := Lib.hid hm
    rw [decide_eq_true hm]
    have HP1 := Lib.hid (pw_drawn (HP.out.new o1))
    have d0 : ({ w1 with drawn := w1.drawn + 1 } : World).cell? ⟨gs, 0, none⟩ = some (.pointer (some ⟨g, 0, none⟩)) := c0 w1 o1
    have d1 : ({ w1 with drawn := w1.drawn + 1 } : World).cell? ⟨gs, 1, none⟩ = some (.string (str nN)) := c1 w1 o1
    have HSS1 : Hid (∀ x, ({ w1 with drawn := w1.drawn + 1 } : World).heap.size ≤ x → S x) := fun x hx => HSS.out x (Nat.le_trans o1.size hx)
    have HK : Hid (∀ w', Tu (fun x => x = g ∨ S x) ({ w1 with drawn := w1.drawn + 1 } : World) w' → Tu (fun x => x = g ∨ S x) w w') := fun w' k => (Tu.new (S := fun x => x = g ∨ S x) o1).trans (tu_drawn k) (fun _ _ h => h)
    clear hm c0 c1 o0 o1 HU hb1
    go_upto_region 3 with fail
    obtain ⟨wd, hwd⟩ : ∃ wd, ({ w1 with drawn := w1.drawn + 1 } : World) = wd := ⟨_, rfl⟩
    rw [hwd] at d0 d1 HP1 HK HSS1
    refine wp_region_still_tail 8 (by kernel_rfl) (by kernel_rfl) ?_
    simp only [List.take_succ_cons, List.take_zero, List.drop_succ_cons, List.drop_zero]
    rw [hwd]
    clear hwd
    repeat still_step
    refine wpStill_nil ?_
    go_wp2_with fail
    refine (premove_c nN [] wd HP1.out HSS1.out (by decide) (by simp) hp).mono ?_
    rintro R w3 ⟨rfl, hp3, ht3⟩
    have H9 : Hid (StPost S w g dv q ko kc t p 0 (.returned (.int .i64 (p.code (wrR 4 q p.E nN []) : Nat))) w3) := by
      have e1 : stC q t p 0 = p.wrc 4 q nN [] := if_pos HM.out
      have e2 : stP q t p 0 = p.wr 4 q nN [] := if_pos HM.out
      exact ⟨by rw [e1]; rfl, by rw [e2]; exact hp3, HK.out _ ht3⟩
    clear hp3 ht3
    go_wp2
    rw [HQ.out]
    exact H9.out
  · have HM := Lib.hid hm
    rw [decide_eq_false hm]
    clear hm c0 c1 o0 HU hb1
    go_wp2
    rw [HQ.out]
    have e1 : stC q t p 0 = 0 := if_neg HM.out
    have e2 : stP q t p 0 = p := if_neg HM.out
    exact ⟨by rw [e1]; rfl, by rw [e2]; exact HP.out.new O1.out, Tu.new O1.out⟩
end
def TnPost (S : Nat → Prop) (w : World) (g : Nat) (dv : Value) (q : Nat) (ko : Option Addr) (kc : Nat) (t : List UInt8) (p : Pw) (R : Ending) (w' : World) : Prop :=
  R = .returned (.int .i64 ((swR q t 5 0 p).1 : Nat)) ∧ PwC S w' g dv q ko kc (swR q t 5 0 p).2 ∧ Tu (fun x => x = g ∨ S x) w w'
theorem swR_go {q : Nat} {t : List UInt8} {f j : Nat} {p : Pw} (h : stC q t p j = 0) : swR q t (f + 1) j p = swR q t f (j + 1) (stP q t p j) := if_pos h
theorem swR_no {q : Nat} {t : List UInt8} {f j : Nat} {p : Pw} (h : stC q t p j ≠ 0) : swR q t (f + 1) j p = (stC q t p j, stP q t p j) := if_neg h
set_option maxHeartbeats 8000000 in
theorem mturn_c {S : Nat → Prop} {g q gs gl : Nat} {dv : Value} {kc : Nat} {ko : Option Addr} {p : Pw} (t : List UInt8) (w : World) (hx : Sx S w g gs gl t) (h : PwC S w g dv q ko kc p) (hS : ∀ x, w.heap.size ≤ x → S x) (hl : t.length ≤ maxLen) (hp : p.n + 5 < 1000000) (hE : p.names.length ≤ 1000) :
    Calls Tryz.prog 167 #[.slice (some ⟨gl, 0, none⟩) 5 5] w (TnPost S w g dv q ko kc t p) := by
  have HX0 := Lib.hid hx
  have HP0 := Lib.hid h
  have HS := Lib.hid hS
  have HL := Lib.hid hl
  have HN := Lib.hid hp
  have HEL := Lib.hid hE
  obtain ⟨Q, hQ⟩ : ∃ Q, Q = TnPost S w g dv q ko kc t p := ⟨_, rfl⟩
  rw [← hQ]
  have HQ := Lib.hid hQ
  clear hx h hS hl hp hQ hE
  go_enter Tryz.func167, Tryz.ntmps167
  go_wp2
  go_step3
  go_wp2
  go_step3
  go_wp2
  go_loopg [3, 8] 5 (fun n ev iv wr => ∃ (j : Nat) (p' : Pw), j + n = 5 ∧ ev = .int .i64 0 ∧ iv = .int .i64 (j : Int) ∧ Hid (swR q t 5 0 p = swR q t (5 - j) j p') ∧ Hid (p'.n ≤ p.n + j) ∧ Hid (j = 0 → p' = p) ∧ Hid (PwC S wr g dv q ko kc p') ∧ Hid (Tu (fun x => x = g ∨ S x) w wr) ∧ Hid (Sx S wr g gs gl t))
  case atStart => exact ⟨0, p, by omega, rfl, rfl, rfl, Nat.le_refl _, fun _ => rfl, HP0.out, Tu.refl _ _, HX0.out⟩
  case round =>
    obtain ⟨j, p', hj, rfl, rfl, HR, HNJ, HJ0, HP, HT, HX⟩ := hrel
    clear HX0 HP0
    have hj4 : j = 0 ∨ j = 1 ∨ j = 2 ∨ j = 3 ∨ j = 4 ∨ j = 5 := by omega
    rcases hj4 with rfl | rfl | rfl | rfl | rfl | rfl
    · have c1 := HX.out.l.cell 0
      have hin := @enters Tryz.prog 168 _ _ Tryz.func168 (by kernel_rfl) rfl
      simp only [List.getElem?_toArray, List.getElem?_cons_zero, List.getElem?_cons_succ] at c1
      go_wp2_with fail
      refine (clear_s t wr HX.out HP.out (fun x hx => HS.out x (Nat.le_trans HT.out.size hx)) HL.out (by have h1 := HNJ.out; have h2 := HN.out; omega) ((show p' = p from by first | exact HJ0.out rfl | exact HJ0.out trivial) ▸ HEL.out)).mono ?_
      rintro R w1 ⟨rfl, hp1, ht1⟩
      obtain ⟨cj, hcj⟩ : ∃ cj : Nat, cj = stC q t p' 0 := ⟨_, rfl⟩
      rw [← hcj]
      have HCJ := Lib.hid hcj
      have P1 : Hid (PwC S w1 g dv q ko kc (stP q t p' 0)) := hp1
      have T1 := Lib.hid (HT.out.trans ht1 (fun _ _ h => h))
      have X1 := Lib.hid (HX.out.tu ht1)
      clear hp1 ht1 hcj c1 hin
      by_cases hz : cj = 0
      · have HZ := Lib.hid hz
        subst hz
        go_wp2
        go_roundg 4
        case rel => exact ⟨0 + 1, stP q t p' 0, by omega, rfl, by go_num, by show _ = _; rw [HR.out]; exact swR_go HCJ.out.symm, by show _ ≤ _; have h1 := stP_n q t p' 0; have h2 := HNJ.out; omega, fun e => by omega, P1.out, T1.out, X1.out⟩
        case measure => omega
      · have hne : ((cj : Int) == 0) = false := beq_eq_false_iff_ne.2 (by omega)
        have E : Hid (swR q t 5 0 p = (cj, stP q t p' 0)) := by
          show _ = _
          rw [HR.out, HCJ.out]
          exact swR_no (by rw [← HCJ.out]; exact hz)
        go_wp2
        rw [HQ.out]
        unfold TnPost
        rw [E.out]
        exact ⟨rfl, P1.out, T1.out⟩
    · have c1 := HX.out.l.cell 1
      have hin := @enters Tryz.prog 169 _ _ Tryz.func169 (by kernel_rfl) rfl
      simp only [List.getElem?_toArray, List.getElem?_cons_zero, List.getElem?_cons_succ] at c1
      go_wp2_with fail
      refine (create_s t wr HX.out HP.out (fun x hx => HS.out x (Nat.le_trans HT.out.size hx)) HL.out (by have h1 := HNJ.out; have h2 := HN.out; omega)).mono ?_
      rintro R w1 ⟨rfl, hp1, ht1⟩
      obtain ⟨cj, hcj⟩ : ∃ cj : Nat, cj = stC q t p' 1 := ⟨_, rfl⟩
      rw [← hcj]
      have HCJ := Lib.hid hcj
      have P1 : Hid (PwC S w1 g dv q ko kc (stP q t p' 1)) := hp1
      have T1 := Lib.hid (HT.out.trans ht1 (fun _ _ h => h))
      have X1 := Lib.hid (HX.out.tu ht1)
      clear hp1 ht1 hcj c1 hin
      by_cases hz : cj = 0
      · have HZ := Lib.hid hz
        subst hz
        go_wp2
        go_roundg 3
        case rel => exact ⟨1 + 1, stP q t p' 1, by omega, rfl, by go_num, by show _ = _; rw [HR.out]; exact swR_go HCJ.out.symm, by show _ ≤ _; have h1 := stP_n q t p' 1; have h2 := HNJ.out; omega, fun e => by omega, P1.out, T1.out, X1.out⟩
        case measure => omega
      · have hne : ((cj : Int) == 0) = false := beq_eq_false_iff_ne.2 (by omega)
        have E : Hid (swR q t 5 0 p = (cj, stP q t p' 1)) := by
          show _ = _
          rw [HR.out, HCJ.out]
          exact swR_no (by rw [← HCJ.out]; exact hz)
        go_wp2
        rw [HQ.out]
        unfold TnPost
        rw [E.out]
        exact ⟨rfl, P1.out, T1.out⟩
    · have c1 := HX.out.l.cell 2
      have hin := @enters Tryz.prog 170 _ _ Tryz.func170 (by kernel_rfl) rfl
      simp only [List.getElem?_toArray, List.getElem?_cons_zero, List.getElem?_cons_succ] at c1
      go_wp2_with fail
      refine (fill_s t wr HX.out HP.out (fun x hx => HS.out x (Nat.le_trans HT.out.size hx)) HL.out (by have h1 := HNJ.out; have h2 := HN.out; omega)).mono ?_
      rintro R w1 ⟨rfl, hp1, ht1⟩
      obtain ⟨cj, hcj⟩ : ∃ cj : Nat, cj = stC q t p' 2 := ⟨_, rfl⟩
      rw [← hcj]
      have HCJ := Lib.hid hcj
      have P1 : Hid (PwC S w1 g dv q ko kc (stP q t p' 2)) := hp1
      have T1 := Lib.hid (HT.out.trans ht1 (fun _ _ h => h))
      have X1 := Lib.hid (HX.out.tu ht1)
      clear hp1 ht1 hcj c1 hin
      by_cases hz : cj = 0
      · have HZ := Lib.hid hz
        subst hz
        go_wp2
        go_roundg 2
        case rel => exact ⟨2 + 1, stP q t p' 2, by omega, rfl, by go_num, by show _ = _; rw [HR.out]; exact swR_go HCJ.out.symm, by show _ ≤ _; have h1 := stP_n q t p' 2; have h2 := HNJ.out; omega, fun e => by omega, P1.out, T1.out, X1.out⟩
        case measure => omega
      · have hne : ((cj : Int) == 0) = false := beq_eq_false_iff_ne.2 (by omega)
        have E : Hid (swR q t 5 0 p = (cj, stP q t p' 2)) := by
          show _ = _
          rw [HR.out, HCJ.out]
          exact swR_no (by rw [← HCJ.out]; exact hz)
        go_wp2
        rw [HQ.out]
        unfold TnPost
        rw [E.out]
        exact ⟨rfl, P1.out, T1.out⟩
    · have c1 := HX.out.l.cell 3
      have hin := @enters Tryz.prog 171 _ _ Tryz.func171 (by kernel_rfl) rfl
      simp only [List.getElem?_toArray, List.getElem?_cons_zero, List.getElem?_cons_succ] at c1
      go_wp2_with fail
      refine (sync_s t wr HX.out HP.out (fun x hx => HS.out x (Nat.le_trans HT.out.size hx)) HL.out (by have h1 := HNJ.out; have h2 := HN.out; omega)).mono ?_
      rintro R w1 ⟨rfl, hp1, ht1⟩
      obtain ⟨cj, hcj⟩ : ∃ cj : Nat, cj = stC q t p' 3 := ⟨_, rfl⟩
      rw [← hcj]
      have HCJ := Lib.hid hcj
      have P1 : Hid (PwC S w1 g dv q ko kc (stP q t p' 3)) := hp1
      have T1 := Lib.hid (HT.out.trans ht1 (fun _ _ h => h))
      have X1 := Lib.hid (HX.out.tu ht1)
      clear hp1 ht1 hcj c1 hin
      by_cases hz : cj = 0
      · have HZ := Lib.hid hz
        subst hz
        go_wp2
        go_roundg 1
        case rel => exact ⟨3 + 1, stP q t p' 3, by omega, rfl, by go_num, by show _ = _; rw [HR.out]; exact swR_go HCJ.out.symm, by show _ ≤ _; have h1 := stP_n q t p' 3; have h2 := HNJ.out; omega, fun e => by omega, P1.out, T1.out, X1.out⟩
        case measure => omega
      · have hne : ((cj : Int) == 0) = false := beq_eq_false_iff_ne.2 (by omega)
        have E : Hid (swR q t 5 0 p = (cj, stP q t p' 3)) := by
          show _ = _
          rw [HR.out, HCJ.out]
          exact swR_no (by rw [← HCJ.out]; exact hz)
        go_wp2
        rw [HQ.out]
        unfold TnPost
        rw [E.out]
        exact ⟨rfl, P1.out, T1.out⟩
    · have c1 := HX.out.l.cell 4
      have hin := @enters Tryz.prog 172 _ _ Tryz.func172 (by kernel_rfl) rfl
      simp only [List.getElem?_toArray, List.getElem?_cons_zero, List.getElem?_cons_succ] at c1
      go_wp2_with fail
      refine (rename_s t wr HX.out HP.out (fun x hx => HS.out x (Nat.le_trans HT.out.size hx)) HL.out (by have h1 := HNJ.out; have h2 := HN.out; omega)).mono ?_
      rintro R w1 ⟨rfl, hp1, ht1⟩
      obtain ⟨cj, hcj⟩ : ∃ cj : Nat, cj = stC q t p' 4 := ⟨_, rfl⟩
      rw [← hcj]
      have HCJ := Lib.hid hcj
      have P1 : Hid (PwC S w1 g dv q ko kc (stP q t p' 4)) := hp1
      have T1 := Lib.hid (HT.out.trans ht1 (fun _ _ h => h))
      have X1 := Lib.hid (HX.out.tu ht1)
      clear hp1 ht1 hcj c1 hin
      by_cases hz : cj = 0
      · have HZ := Lib.hid hz
        subst hz
        go_wp2
        go_roundg 0
        case rel => exact ⟨4 + 1, stP q t p' 4, by omega, rfl, by go_num, by show _ = _; rw [HR.out]; exact swR_go HCJ.out.symm, by show _ ≤ _; have h1 := stP_n q t p' 4; have h2 := HNJ.out; omega, fun e => by omega, P1.out, T1.out, X1.out⟩
        case measure => omega
      · have hne : ((cj : Int) == 0) = false := beq_eq_false_iff_ne.2 (by omega)
        have E : Hid (swR q t 5 0 p = (cj, stP q t p' 4)) := by
          show _ = _
          rw [HR.out, HCJ.out]
          exact swR_no (by rw [← HCJ.out]; exact hz)
        go_wp2
        rw [HQ.out]
        unfold TnPost
        rw [E.out]
        exact ⟨rfl, P1.out, T1.out⟩
    · have E : Hid (swR q t 5 0 p = (0, p')) := HR.out
      go_wp2
      rw [HQ.out]
      unfold TnPost
      rw [E.out]
      exact ⟨rfl, HP.out, HT.out⟩
def SwPost (S : Nat → Prop) (w : World) (g : Nat) (dv : Value) (q : Nat) (ko : Option Addr) (kc : Nat) (m : Mf) (p : Pw) (R : Ending) (w' : World) : Prop :=
  R = .returned (.int .i64 (swE q m p : Nat)) ∧ PwC S w' g dv q ko kc (swP q m p) ∧ Tu (fun x => x = g ∨ S x) w w'
theorem ty_sw : TyA 247 3 := tya_struct Tryz.underlying247 (by kernel_rfl)
theorem st_sw (p v : Value) : Instr.storeAt 247 p v = stT 247 p v := rfl
attribute [local go_sem ↓] ld_man st_sw
set_option maxHeartbeats 8000000 in
theorem swap_c {S : Nat → Prop} {g q : Nat} {dv : Value} {kc : Nat} {ko : Option Addr} {p : Pw} (m : Mf) (so : Option Addr) (sc : Nat) (co : Option Addr) (cc : Nat) (w : World) (hp : PwC S w g dv q ko kc p) (hS : ∀ x, w.heap.size ≤ x → S x) (hm : MfAt w m so co) (hpn : p.n + 5 < 1000000) (hE : p.names.length ≤ 1000) (ht : Tab w) :
    Calls Tryz.prog 119 #[.pointer (some ⟨g, 0, none⟩), .agg (mcs m so sc co cc)] w (SwPost S w g dv q ko kc m p) := by
  have hmf : ∀ (fn : Fn) (first cap : Array Value) (w : World), (Instr.makeFunc fn first cap).run Tryz.prog w = .ok (.func fn first cap) w := fun _ _ _ _ => rfl
  have HT := Lib.hid ht
  have HM := Lib.hid hm
  have HP := Lib.hid hp
  have HS := Lib.hid hS
  have HPN := Lib.hid hpn
  have HEL := Lib.hid hE
  have H0 := Loc.one w 60 (mcs m so sc co cc)
  obtain ⟨Q, hQ⟩ : ∃ Q : Ending → World → Prop, Q = SwPost S w g dv q ko kc m p := ⟨_, rfl⟩
  rw [← hQ]
  have HQ := Lib.hid hQ
  clear ht hm hp hS hpn hQ hE
  cases hok : m.ok
  · have HE := Lib.hid (pt_no hok)
    have HO := Lib.hid (sw_no (q := q) (p := p) hok)
    clear hok
    go_enter Tryz.func119, Tryz.ntmps119
    go_upto_region 1 with fail
    generalize w.alloc (.cells (mcs m so sc co cc) 60) = wa at *
    have l0 := H0.ldA ty_man 0 rfl 0 (vs := mcs m so sc co cc) rfl (Nat.le_of_ble_eq_true rfl)
    go_wp2_with fail
    refine (mput_c m so sc co cc wa (HM.out.to H0.be) (tab_below HT.out H0.be)).mono ?_
    rintro E w1 ⟨rfl, hb1⟩
    rw [HE.out.1, HE.out.2]
    have H1 := Lib.hid (H0.to hb1).be
    clear hb1 l0 H0
    go_wp2
    rw [HQ.out]
    unfold SwPost
    rw [HO.out.1, HO.out.2]
    exact ⟨rfl, HP.out.new H1.out, Tu.new H1.out⟩
  · have HE := Lib.hid (pt_yes hok)
    have HO := Lib.hid (sw_yes (q := q) (p := p) hok)
    have HLN := Lib.hid (enc_len hok)
    clear hok
    obtain ⟨t, ht⟩ : ∃ t, t = enc m := ⟨_, rfl⟩
    rw [← ht] at HE HO HLN
    clear ht
    go_enter Tryz.func119, Tryz.ntmps119
    go_upto_region 1 with fail
    generalize w.alloc (.cells (mcs m so sc co cc) 60) = wa at *
    have l0 := H0.ldA ty_man 0 rfl 0 (vs := mcs m so sc co cc) rfl (Nat.le_of_ble_eq_true rfl)
    go_wp2_with fail
    refine (mput_c m so sc co cc wa (HM.out.to H0.be) (tab_below HT.out H0.be)).mono ?_
    rintro E w1 ⟨rfl, hb1⟩
    rw [HE.out.1, HE.out.2]
    have H1 := H0.to hb1
    obtain ⟨gs, w2, z2, s2, H2, q2⟩ := H1.newA ty_sw #[.pointer none, .string ⟨#[]⟩, .string ⟨#[]⟩] #[.pointer (some ⟨g, 0, none⟩), .string (str nN), .string (str t)] rfl rfl rfl
    replace H2 : Hid (Loc w.heap.size w w2 [(w.heap.size, 60, mcs m so sc co cc), (gs, 247, #[.pointer (some ⟨g, 0, none⟩), .string (str nN), .string (str t)])]) := H2
    have hnn : Hid (nM ++ nw = nN) := by show _ = _; decide
    clear hb1 l0 H0 H1 q2
    go_wp2_with fail
    refine (nnew_c nM _ (by decide)).mono ?_
    rintro E w' ⟨rfl, rfl⟩
    rw [hnn.out]
    have HW8 := Lib.hid (mb_alloc w2 (.cells #[.func (.func 168) #[.pointer (some ⟨gs, 0, none⟩)] #[], .func (.func 169) #[.pointer (some ⟨gs, 0, none⟩)] #[], .func (.func 170) #[.pointer (some ⟨gs, 0, none⟩)] #[], .func (.func 171) #[.pointer (some ⟨gs, 0, none⟩)] #[], .func (.func 172) #[.pointer (some ⟨gs, 0, none⟩)] #[]] 57))
    have HC8 := Lib.hid (Cells.made w2 57 #[.func (.func 168) #[.pointer (some ⟨gs, 0, none⟩)] #[], .func (.func 169) #[.pointer (some ⟨gs, 0, none⟩)] #[], .func (.func 170) #[.pointer (some ⟨gs, 0, none⟩)] #[], .func (.func 171) #[.pointer (some ⟨gs, 0, none⟩)] #[], .func (.func 172) #[.pointer (some ⟨gs, 0, none⟩)] #[]])
    go_wp2_with fail
    clear s2 z2
    generalize w2.alloc (.cells #[.func (.func 168) #[.pointer (some ⟨gs, 0, none⟩)] #[], .func (.func 169) #[.pointer (some ⟨gs, 0, none⟩)] #[], .func (.func 170) #[.pointer (some ⟨gs, 0, none⟩)] #[], .func (.func 171) #[.pointer (some ⟨gs, 0, none⟩)] #[], .func (.func 172) #[.pointer (some ⟨gs, 0, none⟩)] #[]] 57) = w8 at *
    have hlt := HP.out.lt
    have h8 := H2.out.to HW8.out
    have hsz := h8.be.size
    have hx : Sx (fun x => S x ∧ (x < w.heap.size ∨ w8.heap.size ≤ x)) w8 g gs w2.heap.size t := by
      refine ⟨h8.get 1 rfl, HC8.out, fun x hx => ?_⟩
      have e1 := (h8.get 1 rfl).lt
      have e8 := HC8.out.lt
      have g1 := h8.ge _ (List.mem_of_getElem? (show _[1]? = some (gs, _, _) from rfl))
      have g8 := H2.out.be.size
      rintro (e | ⟨_, e⟩)
      · rcases hx with rfl | rfl <;> omega
      · rcases hx with rfl | rfl <;> omega
    refine (mturn_c t w8 hx ((HP.out.mono (S' := fun x => S x ∧ (x < w.heap.size ∨ w8.heap.size ≤ x)) fun x hx => ⟨fun h => ⟨h, .inl hx⟩, fun h => h.1⟩).new h8.be) (fun x hx => ⟨HS.out x (Nat.le_trans hsz hx), .inr hx⟩) (by have := HLN.out; simp only [maxLen]; omega) HPN.out HEL.out).mono ?_
    rintro E w9 ⟨rfl, hp9, ht9⟩
    have HP9 := Lib.hid (hp9.back HP.out (swR_ks _ _ _ _ _) fun x hx => hx.1)
    have HT9 := Lib.hid ((Tu.new (S := fun x => x = g ∨ S x) h8.be).trans ht9 (fun x _ hx => hx.imp id And.left))
    clear hp9 ht9 hx h8 hsz hlt hmf
    go_wp2
    rw [HQ.out]
    unfold SwPost
    rw [HO.out.1, HO.out.2]
    exact ⟨rfl, HP9.out, HT9.out⟩
end Go.Proofs.YtgeaacabpnepmaaGreatDoor
