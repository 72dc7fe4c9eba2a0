/- The chapter's examples in plain words; works. Conditions: the table of four steps lies in its variable. -/
import Derived.Test.YthnelnfefllhpaaDoorBl
namespace Go.Proofs.YthnelnfefllhpaaDoor
open Go.RowKit
set_option linter.unusedVariables false
set_option linter.unusedSimpArgs false
set_option maxRecDepth 20000

theorem scn_whole {n : Nat} {l : List Rc} (h : Goes n sg0 l) (hl : l ≠ []) : scn n sg0 0 (bys l) = ⟨runS sg0 l, (bys l).length, 0⟩ := by
  have := scn_run (a := 0) [] h
  rw [List.append_nil, Nat.zero_add, scn_end (runS_b h hl)] at this
  exact this
theorem scn_stop {n : Nat} {l : List Rc} {r : Rc} {e : Int} (h : Goes n sg0 l) (hf : r.fit) (hm : mayB r = true) (ht : tkS n (runS sg0 l) r = e) (he : e ≠ 0) (m : List UInt8) : scn n sg0 0 (bys l ++ (byR r ++ m)) = ⟨runS sg0 l, (bys l).length, e⟩ := by
  rw [scn_run (byR r ++ m) h, Nat.zero_add, scn_wrong hf hm (by rw [ht]; exact he), ht]
/-- What 'is' asks of bytes. -/
def IsP (s : List UInt8) (m : Nat) (e : Int) : Prop := ∃ x a, scn 1 sg0 0 s = ⟨x, a, e⟩ ∧ x.h = rH 1 5 ∧ x.l.length = m ∧ a ≤ s.length ∧ (a = s.length ↔ e = 0)
def IsN (s : List UInt8) (e : Int) : Prop := ∃ x, scn 1 sg0 0 s = ⟨x, 0, e⟩ ∧ x.h = rz ∧ x.l = []
theorem isP_whole {l : List Rc} (h : Goes 1 sg0 (rH 1 5 :: l)) : IsP (bys (rH 1 5 :: l)) l.length 0 := by
  obtain ⟨h1, h2, _⟩ := runS_told h
  exact ⟨_, _, scn_whole h (by simp), h1, by rw [h2], Nat.le_refl _, by simp⟩
theorem isP_stop {l : List Rc} {r : Rc} {e : Int} (h : Goes 1 sg0 (rH 1 5 :: l)) (hr : r.fit ∧ mayB r = true) (ht : tkS 1 (runS sg0 (rH 1 5 :: l)) r = e) (he : e ≠ 0) (m : List UInt8) : IsP (bys (rH 1 5 :: l) ++ (byR r ++ m)) l.length e := by
  obtain ⟨h1, h2, _⟩ := runS_told h
  have := byR_lo r
  refine ⟨_, _, scn_stop h hr.1 hr.2 ht he m, h1, by rw [h2], by rw [List.length_append]; omega, ?_⟩
  rw [List.length_append, List.length_append]
  constructor
  · intro h3; omega
  · intro h3; exact absurd h3 he
theorem isP_bad {l : List Rc} {s : List UInt8} {e : Int} (h : Goes 1 sg0 (rH 1 5 :: l)) (hs : s ≠ []) (ht : fe s = e) (he : e ≠ 0) : IsP (bys (rH 1 5 :: l) ++ s) l.length e := by
  obtain ⟨h1, h2, h3⟩ := runS_told h
  refine ⟨_, _, by rw [scn_run s h, Nat.zero_add, scn_fe (fun h => hs h.1) (by rw [ht]; exact he), ht], h1, by rw [h2], by rw [List.length_append]; omega, ?_⟩
  rw [List.length_append]
  have := List.length_pos_iff.2 hs
  constructor
  · intro h3; omega
  · intro h3; exact absurd h3 he
theorem isP_take {l : List Rc} {s : List UInt8} {e : Int} (h : Goes 1 sg0 (rH 1 5 :: l)) (hs : fe s = 0) (ht : (tkR (fp s)).1 = e) (he : e ≠ 0) : IsP (bys (rH 1 5 :: l) ++ s) l.length e := by
  obtain ⟨h1, h2, h3⟩ := runS_told h
  refine ⟨_, _, by rw [scn_run s h, Nat.zero_add, scn_tk hs (by rw [ht]; exact he), ht], h1, by rw [h2], by rw [List.length_append]; omega, ?_⟩
  rw [List.length_append]
  have := List.length_pos_iff.2 (fe_ne hs)
  constructor
  · intro h3; omega
  · intro h3; exact absurd h3 he
theorem isN_stop {r : Rc} {e : Int} (hr : r.fit ∧ mayB r = true) (ht : tkS 1 sg0 r = e) (he : e ≠ 0) : IsN (byR r) e := by
  have := scn_wrong (n := 1) (x := sg0) (a := 0) hr.1 hr.2 (by rw [ht]; exact he) []
  rw [List.append_nil, ht] at this
  exact ⟨_, this, rfl, rfl⟩
theorem isN_empty : IsN [] 10 := ⟨sg0, by rw [scn_fe (fun h => by cases h.2) (by rw [fe_short (by simp)]; decide), fe_short (by simp)], rfl, rfl⟩
def W3 : List Rc := [rH 1 5, rO 5 7, rS 5 7 9]
theorem byR_H (n f : Nat) : (byR (rH n f)).length = 32 := by rw [byR_len]; simp [encR, encK, rH, le_length]
theorem byR_O (f i : Nat) : (byR (rO f i)).length = 16 := by rw [byR_len]; simp [encR, encK, rO, le_length]
theorem byR_S (f a b : Nat) : (byR (rS f a b)).length = 17 := by rw [byR_len]; simp [encR, encK, rS, le_length]
theorem goes_1 : Goes 1 sg0 [rH 1 5] := ⟨(rH_ok (by decide) (by decide)).1, (rH_ok (by decide) (by decide)).2, by decide, trivial⟩
theorem goes_2 : Goes 1 sg0 [rH 1 5, rO 5 7] := ⟨goes_1.1, goes_1.2.1, goes_1.2.2.1, (rO_ok (by decide) (by decide)).1, (rO_ok (by decide) (by decide)).2, by decide, trivial⟩
theorem goes_3 : Goes 1 sg0 W3 := ⟨goes_1.1, goes_1.2.1, goes_1.2.2.1, goes_2.2.2.2.1, goes_2.2.2.2.2.1, goes_2.2.2.2.2.2.1, (rS_ok (by decide) (by decide) (by decide)).1, (rS_ok (by decide) (by decide) (by decide)).2, by decide, trivial⟩
theorem W3_len : (bys W3).length = 65 := by simp [W3, bys_cons, bys_nil, byR_H, byR_O, byR_S]
theorem W3_is : IsP (bys W3) 2 0 := isP_whole goes_3
theorem W3_cut : IsP ((bys W3).take 64) 1 10 := by
  have h2 : (bys (W3.take 2)).length = 48 := by simp [W3, bys_cons, bys_nil, byR_H, byR_O]
  have := scn_begin goes_3 (m := 2) (k := 64) (by simp [W3]) (by rw [h2]; omega) (fun _ => by rw [show (2 : Nat) + 1 = 3 from rfl, show W3.take 3 = W3 from rfl, W3_len]; omega) (by rw [W3_len]; omega)
  obtain ⟨h3, h4, _⟩ := runS_told goes_2
  rw [h2] at this
  refine ⟨_, _, this, h3, by rw [show W3.take 2 = [rH 1 5, rO 5 7] from rfl, h4]; rfl, ?_, ?_⟩
  · rw [List.length_take, W3_len]; omega
  · rw [List.length_take, W3_len]; simp
theorem mays_of {n : Nat} : ∀ {l : List Rc} {x : Sg}, Goes n x l → Mays l
  | [], _, _, r, hr => by cases hr
  | a :: l, x, ⟨h1, h2, h3, h4⟩, r, hr => by
    rcases List.mem_cons.1 hr with rfl | hr
    · exact ⟨h1, h2⟩
    · exact mays_of h4 r hr
attribute [local go_sem ↓] bs_m3
attribute [local go_sem] bs_three
set_option maxHeartbeats 1000000 in
theorem works_c (w : World) (ht : Tab w) : Calls Tryd.prog 6 #[] w fun E w' => E = .returned (.bool true) ∧ Below w.heap.size w w' := by
  have HT := Lib.hid ht
  have h0 : str [] = ⟨#[]⟩ := rfl
  clear ht
  go_enter Tryd.func6, Tryd.ntmps6
  go_wp2_with fail
  refine (head_c 1 5 _).mono ?_
  rintro E w1 ⟨rfl, hb1⟩
  have B1 := Lib.hid hb1
  clear hb1
  go_wp2_with fail
  refine (own_c 5 7 _).mono ?_
  rintro E w2 ⟨rfl, hb2⟩
  have B2 := Lib.hid (B1.out.trans (hb2.mono B1.out.size))
  clear hb2 B1
  go_wp2_with fail
  refine (sure_c 5 7 9 _).mono ?_
  rintro E w3 ⟨rfl, hb3⟩
  have B3 := Lib.hid (B2.out.trans (hb3.mono B2.out.size))
  clear hb3 B2
  have hw3 := Lib.hid (rcsAt_block (l := W3) (Cells.made w3 28 (Rall [rH 1 5, rO 5 7, rS 5 7 9]).toArray) rfl)
  have B4 := Lib.hid (B3.out.alloc B3.out.size (.cells (Rall [rH 1 5, rO 5 7, rS 5 7 9]).toArray 28))
  go_wp2_with fail
  refine (lput_c W3 _ 3 _ hw3.out (mays_of goes_3) (by decide) (tab_b HT.out HT.out.1 B4.out)).mono ?_
  rintro E w5 ⟨rfl, hb5⟩
  have B5 := Lib.hid (B4.out.trans (hb5.mono B4.out.size))
  clear hb5 B4 hw3 B3
  have hsz := str_size (bys W3)
  have hcut : (str (bys W3)).extract 0 (max (0 : Int) 64).toNat = str ((bys W3).take 64) := str_cut (bys W3) 64
  have hin := Lib.hid W3_is
  have hic := Lib.hid W3_cut
  have hlen := Lib.hid W3_len
  rw [W3_len] at hsz
  generalize bys W3 = z at *
  go_wp2_with fail
  refine (is_yes z 2 0 _ (by rw [hlen.out]; omega) (by omega) hin.out (tab_b HT.out HT.out.1 B5.out)).mono ?_
  rintro E w6 ⟨rfl, hb6⟩
  have B6 := Lib.hid (B5.out.trans (hb6.mono B5.out.size))
  clear hb6 B5
  go_wp2_with fail
  refine (is_yes (z.take 64) 1 10 _ (by rw [List.length_take]; omega) (by omega) hic.out (tab_b HT.out HT.out.1 B6.out)).mono ?_
  rintro E w7 ⟨rfl, hb7⟩
  have B7 := Lib.hid (B6.out.trans (hb7.mono B6.out.size))
  clear hb7 B6
  go_wp2_with fail
  refine (is_no [] 10 _ (by simp) isN_empty (tab_b HT.out HT.out.1 B7.out)).mono ?_
  rintro E w8 ⟨rfl, hb8⟩
  have B8 := Lib.hid (B7.out.trans (hb8.mono B7.out.size))
  clear hb8 B7
  go_wp2
  go_ret
  exact ⟨rfl, B8.out⟩
end Go.Proofs.YthnelnfefllhpaaDoor
