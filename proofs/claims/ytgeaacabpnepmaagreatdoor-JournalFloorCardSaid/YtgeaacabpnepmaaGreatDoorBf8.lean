/- Texts of the walk. -/
import Derived.Test.YtgeaacabpnepmaaGreatDoorAg8
/- The next record of a text, and Scan, by the program: one contract each. Conditions: the table of four steps lies in its variable; texts of 2^20 bytes at most. -/
namespace Go.Proofs.YtgeaacabpnepmaaGreatDoor
open Go.RowKit
set_option linter.unusedVariables false
set_option linter.unusedSimpArgs false
set_option maxRecDepth 20000

def nxE (s : List UInt8) : Int := if fe s = 0 then (tkR (fp s)).1 else fe s
def nxR (s : List UInt8) : Rc := if fe s = 0 then (tkR (fp s)).2 else rz
theorem scn_nx {n a : Nat} {x : Sg} {s : List UInt8} (h : ¬ (s = [] ∧ x.b = true)) :
    scn n x a s = if nxE s = 0 then (if tkS n x (nxR s) = 0 then scn n (adS x (nxR s)) (a + fu s) (s.drop (fu s)) else ⟨x, a, tkS n x (nxR s)⟩) else ⟨x, a, nxE s⟩ := by
  unfold nxE nxR fu
  by_cases he : fe s = 0
  · rw [if_pos he, if_pos he, if_pos he]
    by_cases h2 : (tkR (fp s)).1 = 0
    · rw [if_pos h2]
      by_cases h3 : tkS n x (tkR (fp s)).2 = 0
      · rw [if_pos h3, scn_go he h2 h3]
      · rw [if_neg h3, scn_no he h2 h3]
    · rw [if_neg h2, scn_tk he h2]
  · rw [if_neg he, if_neg he, scn_fe h he]
theorem nx_ok {s : List UInt8} (h : nxE s = 0) : (nxR s).fit ∧ mayB (nxR s) = true ∧ 6 ≤ fu s ∧ fu s ≤ s.length := by
  unfold nxE at h
  unfold nxR fu
  by_cases he : fe s = 0
  · rw [if_pos he] at h ⊢
    rw [if_pos he]
    have := fp_room he
    exact ⟨tkR_fit _, (tkR_one h).1, by omega, by omega⟩
  · rw [if_neg he] at h
    exact absurd h he
theorem nx_bad {s : List UInt8} (h : fe s ≠ 0) : nxE s = fe s ∧ nxR s = rz ∧ fu s = 0 := by
  unfold nxE nxR fu
  rw [if_neg h, if_neg h, if_neg h]
  exact ⟨rfl, rfl, rfl⟩
theorem nx_yes {s : List UInt8} (h : fe s = 0) : nxE s = (tkR (fp s)).1 ∧ nxR s = (tkR (fp s)).2 := by
  unfold nxE nxR
  rw [if_pos h, if_pos h]
  exact ⟨rfl, rfl⟩
theorem shut_3 {W : World} {g : Nat} {cs : Array Value} {T : TypeId} {p q r : Tmp} (tmps : Array Value) (a b : Value) (fn : Func) (hr : fn.results = #[.cell p T, .tmp q, .tmp r]) (ty : TyA T 9) (h : Cells W g T cs) (hs : cs.size = 9) (h2 : tmps.getD p undef = .pointer (some ⟨g, 0, none⟩)) (h3 : tmps.getD q undef = a) (h4 : tmps.getD r undef = b) :
    (results fn tmps).run Tryz.prog W = .ok (.tuple #[.agg cs, a, b]) W := by
  have hl := run_ldA ty h 0 (by omega)
  have he : ((cs.toList.drop 0).take 9).toArray = cs := by simp [List.take_of_length_le, hs]
  rw [he] at hl
  have h2' : tmps[p]?.getD undef = .pointer (some ⟨g, 0, none⟩) := by simpa using h2
  have h3' : tmps[q]?.getD undef = a := by simpa using h3
  have h4' : tmps[r]?.getD undef = b := by simpa using h4
  have hl' : (loadVar T ⟨g, 0, none⟩).run Tryz.prog W = .ok (.agg cs) W := by simpa [ldT, Instr.loadAt, Instr.sureAddr] using hl
  simp [results, hr, h2', h3', h4', asAddr, hl']
theorem shut_4 {W : World} {g : Nat} {cs : Array Value} {T : TypeId} {p q r s : Tmp} (tmps : Array Value) (a b c : Value) (fn : Func) (hr : fn.results = #[.cell p T, .tmp q, .tmp r, .tmp s]) (ty : TyA T 9) (h : Cells W g T cs) (hs : cs.size = 9) (h2 : tmps.getD p undef = .pointer (some ⟨g, 0, none⟩)) (h3 : tmps.getD q undef = a) (h4 : tmps.getD r undef = b) (h5 : tmps.getD s undef = c) :
    (results fn tmps).run Tryz.prog W = .ok (.tuple #[.agg cs, a, b, c]) W := by
  have hl := run_ldA ty h 0 (by omega)
  have he : ((cs.toList.drop 0).take 9).toArray = cs := by simp [List.take_of_length_le, hs]
  rw [he] at hl
  have h2' : tmps[p]?.getD undef = .pointer (some ⟨g, 0, none⟩) := by simpa using h2
  have h3' : tmps[q]?.getD undef = a := by simpa using h3
  have h4' : tmps[r]?.getD undef = b := by simpa using h4
  have h5' : tmps[s]?.getD undef = c := by simpa using h5
  have hl' : (loadVar T ⟨g, 0, none⟩).run Tryz.prog W = .ok (.agg cs) W := by simpa [ldT, Instr.loadAt, Instr.sureAddr] using hl
  simp [results, hr, h2', h3', h4', h5', asAddr, hl']
attribute [local go_sem ↓] ld_rec st_rec
set_option maxHeartbeats 1000000 in
theorem snext_c (s : List UInt8) (w : World) (hs : s.length ≤ 1099511627776) (ht : Tab w) :
    Calls Tryz.prog 211 #[.string (str s)] w fun E w' => E = .returned (.tuple #[.agg (rcs (nxR s)), .int .i64 (fu s), .int .i64 (nxE s)]) ∧ Below w.heap.size w w' := by
  have H0 := Lib.hid (Loc.one w 114 #[.int .i64 0, .int .u64 0, .int .u8 0, .int .u8 0, .int .u8 0, .int .u64 0, .int .u64 0, .int .u64 0, .int .u8 0])
  have HB := Lib.hid (below_alloc w (.cells #[.int .i64 0, .int .u64 0, .int .u8 0, .int .u8 0, .int .u8 0, .int .u64 0, .int .u64 0, .int .u64 0, .int .u8 0] 114))
  have HT := Lib.hid (tab_b ht ht.1 HB.out)
  have HS := Lib.hid hs
  clear ht hs
  by_cases he : fe s = 0
  · obtain ⟨e1, e2⟩ := nx_yes he
    rw [e1, e2]
    have hl := Lib.hid (fp_len s)
    obtain ⟨e3, he3⟩ : ∃ e, e = (tkR (fp s)).1 := ⟨_, rfl⟩
    obtain ⟨r, hr⟩ : ∃ r, r = (tkR (fp s)).2 := ⟨_, rfl⟩
    rw [← he3, ← hr]
    have HTK : Hid (∀ w, Calls Tryz.prog 227 #[.string (str (fp s))] w fun E w' => E = .returned (.tuple #[.agg (rcs r), .int .i64 e3]) ∧ Below w.heap.size w w') := fun w => by rw [he3, hr]; exact take_c' (fp s) w (by have := hl.out; omega)
    have HNX : Hid (∀ w, Tab w → Calls Tryz.prog 241 #[.string (str s)] w fun E w' => E = .returned (.tuple #[.string (str (fp s)), .int .i64 (fu s), .int .i64 0]) ∧ Below w.heap.size w w') := fun w ht => by rw [← he]; exact next_c s w HS.out ht
    clear e1 e2 he3 hr he
    generalize fp s = p at *
    generalize fu s = u at *
    go_enter Tryz.func211, Tryz.ntmps211
    go_upto_region 1 with fail
    generalize w.alloc (.cells #[.int .i64 0, .int .u64 0, .int .u8 0, .int .u8 0, .int .u8 0, .int .u64 0, .int .u64 0, .int .u64 0, .int .u8 0] 114) = wa at *
    go_wp2_with fail
    refine (HNX.out _ HT.out).mono ?_
    rintro E w1 ⟨rfl, hb1⟩
    have H1 := Lib.hid (H0.out.to hb1)
    clear hb1
    go_wp2_with fail
    refine (HTK.out _).mono ?_
    rintro E w2 ⟨rfl, hb2⟩
    have H2 := Lib.hid (H1.out.to hb2)
    clear hb2
    obtain ⟨w3, s3, h3, q3⟩ := H2.out.stA ty_rec 0 rfl 0 (rcs r) (cs' := rcs r) (by simp [rcs]) (L' := [(w.heap.size, 114, rcs r)]) rfl (Nat.le_of_ble_eq_true rfl) rfl (List.all_eq_true.2 (rcs_one r))
    have l3 := h3.ldA ty_rec 0 rfl 0 (vs := rcs r) (by simp [rcs]) (Nat.le_of_ble_eq_true rfl)
    obtain ⟨w4, s4, h4, q4⟩ := h3.stA ty_rec 0 rfl 0 (rcs r) (cs' := rcs r) (by simp [rcs]) (L' := [(w.heap.size, 114, rcs r)]) rfl (Nat.le_of_ble_eq_true rfl) rfl (List.all_eq_true.2 (rcs_one r))
    have H4 := Lib.hid h4
    clear h3 h4 q3 q4
    go_wp2
    refine bodyPost_ret (shut_3 _ _ _ _ Tryz.results211 ty_rec (H4.out.get 0 rfl) rfl rfl rfl rfl) rfl ?_
    exact ⟨rfl, H4.out.be⟩
  · obtain ⟨e1, e2, e3⟩ := nx_bad he
    have HNX : Hid (∀ w, Tab w → Calls Tryz.prog 241 #[.string (str s)] w fun E w' => E = .returned (.tuple #[.string (str (fp s)), .int .i64 (fu s), .int .i64 (fe s)]) ∧ Below w.heap.size w w') := fun w ht => next_c s w HS.out ht
    rw [e1, e2, e3]
    rw [e3] at HNX
    have hne : (fe s == 0) = false := beq_eq_false_iff_ne.2 he
    have hne2 : (fe s != 0) = true := bne_iff_ne.2 he
    clear e1 e2 e3 he
    generalize fp s = p at *
    generalize fe s = e at *
    go_enter Tryz.func211, Tryz.ntmps211
    go_upto_region 1 with fail
    generalize w.alloc (.cells #[.int .i64 0, .int .u64 0, .int .u8 0, .int .u8 0, .int .u8 0, .int .u64 0, .int .u64 0, .int .u64 0, .int .u8 0] 114) = wa at *
    go_wp2_with fail
    refine (HNX.out _ HT.out).mono ?_
    rintro E w1 ⟨rfl, hb1⟩
    have H1 := Lib.hid (H0.out.to hb1)
    clear hb1
    obtain ⟨w3, s3, h3, q3⟩ := H1.out.stA ty_rec 0 rfl 0 #[.int .i64 0, .int .u64 0, .int .u8 0, .int .u8 0, .int .u8 0, .int .u64 0, .int .u64 0, .int .u64 0, .int .u8 0] (cs' := rcs rz) (by simp [rcs, rz]) (L' := [(w.heap.size, 114, rcs rz)]) rfl (Nat.le_of_ble_eq_true rfl) rfl (by simp [Value.oneCell'])
    have H4 := Lib.hid h3
    clear h3 q3
    go_wp2
    refine bodyPost_ret (shut_3 _ _ _ _ Tryz.results211 ty_rec (H4.out.get 0 rfl) rfl rfl rfl rfl) rfl ?_
    exact ⟨rfl, H4.out.be⟩
end Go.Proofs.YtgeaacabpnepmaaGreatDoor
