/- The newest state that can be loaded, by the program: its contract. Conditions: the two listed variables lie as they are laid. -/
import Derived.Test.YtacgmadgkmcmoaaGreatDoorJd
import Derived.StillTailTactics
namespace Go.Proofs.YtacgmadgkmcmoaaGreatDoor
open Go.RowKit
set_option linter.unusedVariables false
set_option linter.unusedSimpArgs false
set_option maxRecDepth 20000
attribute [local go_sem ↓] ld_state st_state
/-- A row of numbers, read where it lies. -/
def Us (w : World) (lo : Option Addr) (l : List Nat) : Prop :=
  ∀ k (h : k < l.length), l[k]'h < 18446744073709551616 ∧ ∃ b o, lo = some ⟨b, o, none⟩ ∧ w.cell? ⟨b, o + k, none⟩ = some (.int .u64 ((l[k]'h : Nat) : Int))
theorem Us.to {w w' : World} {lo : Option Addr} {l : List Nat} (h : Us w lo l) (hb : Below w.heap.size w w') : Us w' lo l := fun k hk => by
  obtain ⟨h1, b, o, e, hc⟩ := h k hk
  exact ⟨h1, b, o, e, (hb.cell (p := ⟨b, o + k, none⟩) (World.block_lt_of_cell? w _ hc)).trans hc⟩
def KnwPost (w : World) (x : St × Nat × Int) (R : Ending) (w' : World) : Prop :=
  ∃ ao cap, R = .returned (.tuple #[sv x.1 ao cap, .int .i64 (x.2.1 : Nat), .int .i64 x.2.2]) ∧ Shs w' ao x.1.ss ∧ x.1.fit ∧ x.1.ss.length ≤ 8 ∧ Below w.heap.size w w'
theorem shut_kn {W : World} {g : Nat} {cs : Array Value} (p q r : Tmp) (tmps : Array Value) (a e : Int) (fn : Func) (hr : fn.results = #[.cell p 34, .tmp q, .tmp r]) (h : Cells W g 34 cs) (hs : cs.size = 19) (h2 : tmps.getD p undef = .pointer (some ⟨g, 0, none⟩)) (h3 : tmps.getD q undef = .int .i64 a) (h4 : tmps.getD r undef = .int .i64 e) :
    (results fn tmps).run Tryz.prog W = .ok (.tuple #[.agg cs, .int .i64 a, .int .i64 e]) W := by
  have hl := load_state W g (by rw [rowOf_cells h, hs])
  rw [rowOf_cells h] at hl
  have h2' : tmps[p]?.getD undef = .pointer (some ⟨g, 0, none⟩) := by simpa using h2
  have h3' : tmps[q]?.getD undef = .int .i64 a := by simpa using h3
  have h4' : tmps[r]?.getD undef = .int .i64 e := by simpa using h4
  simp [results, hr, h2', h3', h4', asAddr, hl]
theorem knw_ok {p : Pw} {i f : Nat} {l : List Nat} (h : klE p f = 0) : knw p i (f :: l) = (klS p f, i, 0) := if_pos h
theorem knw_down {p : Pw} {i f : Nat} {l : List Nat} (h : klE p f = 8) : knw p i (f :: l) = (.zero, 0, 8) := by unfold knw; rw [if_neg (by rw [h]; decide), if_pos h]
theorem knw_next {p : Pw} {i f : Nat} {l : List Nat} (h : klE p f ≠ 0) (h2 : klE p f ≠ 8) : knw p i (f :: l) = knw p (i + 1) l := by
  show (if klE p f = 0 then _ else if klE p f = 8 then _ else _) = _
  rw [if_neg h, if_neg h2]
set_option maxHeartbeats 8000000 in
theorem knew_c {S : Nat → Prop} {g q : Nat} {dv : Value} {kc : Nat} {ko : Option Addr} {p : Pw} (l : List Nat) (lo : Option Addr) (lc : Nat) (w : World) (h : PwC S w g dv q ko kc p) (hl : Us w lo l) (hn : l.length ≤ 20) (ht : Tab w) (hb : BTab w) :
    Calls Tryz.prog 26 #[.pointer (some ⟨g, 0, none⟩), .slice lo l.length lc] w (KnwPost w (knw p 0 l)) := by
  have H0 := Loc.one w 34 (stc .zero none 0)
  have HT := Lib.hid ht
  have HB := Lib.hid hb
  have HP := Lib.hid h
  have HU := Lib.hid hl
  obtain ⟨X, hX⟩ : ∃ x, x = knw p 0 l := ⟨_, rfl⟩
  rw [← hX]
  obtain ⟨Q, hQ⟩ : ∃ Q, Q = KnwPost w X := ⟨_, rfl⟩
  rw [← hQ]
  have HQ := Lib.hid hQ
  have HX := Lib.hid hX
  clear hQ h hl ht hb hX
  go_enter Tryz.func26, Tryz.ntmps26
  go_upto_region 1 with fail
  rw [show (#[.int .u64 0, .int .u64 0, .int .i32 0, .int .i32 0, .int .i32 0, .int .i32 0, .int .u8 0, .int .u8 0, .int .u8 0, .int .i32 0, .int .i32 0, .int .i32 0, .int .i32 0, .int .u8 0, .int .u8 0, .int .u8 0, .slice none 0 0, .int .u16 0, .int .u16 0] : Array Value) = stc .zero none 0 from rfl]
  generalize w.alloc (.cells (stc .zero none 0) 34) = wa at *
  have HH := Lib.hid H0
  clear H0
  go_wp2
  go_step3
  go_wp2
  go_step3
  go_wp2
  go_loopg [5, 6, 13] l.length (fun n av ev iv wr => ∃ (k : Nat), k + n = l.length ∧ av = .int .i64 0 ∧ ev = .int .i64 5 ∧ iv = .int .i64 (k : Int) ∧ Hid (X = knw p k (l.drop k)) ∧ Hid (Loc w.heap.size w wr [(w.heap.size, 34, stc .zero none 0)]))
  case atStart => exact ⟨0, by omega, rfl, rfl, rfl, HX.out, HH.out⟩
  case round =>
    obtain ⟨k, hk, rfl, rfl, rfl, HR, HL⟩ := hrel
    clear HH HX
    by_cases hlt : k < l.length
    · have hlt1 : (k : Int) < (l.length : Int) := by omega
      obtain ⟨hf, b, o, rfl, hc⟩ := (HU.out.to HL.out.be) k hlt
      have HDR := Lib.hid (List.drop_eq_getElem_cons hlt)
      obtain ⟨f, hff⟩ : ∃ f, f = l[k]'hlt := ⟨_, rfl⟩
      rw [← hff] at hf hc HDR
      have HF := Lib.hid hf
      clear hff hf
      go_wp2_with fail
      refine (kload_c f wr (HP.out.new HL.out.be) HF.out (HT.out.lo HL.out.be) (btab_lo HB.out HL.out.be)).mono ?_
      rintro R w1 ⟨ao, cap, rfl, hsh, hft, h8, hao, hb1⟩
      have HK0 := Lib.hid (fun h => knw_ok (i := k) (l := l.drop (k + 1)) (p := p) (f := f) h)
      have HK8 := Lib.hid (fun h => knw_down (i := k) (l := l.drop (k + 1)) (p := p) (f := f) h)
      have HKN := Lib.hid (fun h h2 => knw_next (i := k) (l := l.drop (k + 1)) (p := p) (f := f) h h2)
      obtain ⟨e, he⟩ : ∃ e, e = klE p f := ⟨_, rfl⟩
      obtain ⟨s, hs⟩ : ∃ s, s = klS p f := ⟨_, rfl⟩
      rw [← he] at HK0 HK8 HKN ⊢
      rw [← hs] at HK0 hsh hft h8 hao ⊢
      have L1 := HL.out.to hb1
      obtain ⟨g2, w2, z2, s2, L2, q2⟩ := L1.newA ty_state #[.int .u64 0, .int .u64 0, .int .i32 0, .int .i32 0, .int .i32 0, .int .i32 0, .int .u8 0, .int .u8 0, .int .u8 0, .int .i32 0, .int .i32 0, .int .i32 0, .int .i32 0, .int .u8 0, .int .u8 0, .int .u8 0, .slice none 0 0, .int .u16 0, .int .u16 0] (stc s ao cap) rfl rfl rfl
      replace L2 : Loc _ _ _ [(w.heap.size, 34, stc .zero none 0), (g2, 34, stc s ao cap)] := L2
      have HAO := Lib.hid (show ∀ a, ao = some a → s.ss ≠ [] → a.block ≠ w.heap.size from fun a e1 h1 => by have h2 := hao a e1 h1; have h3 := HL.out.low (e := (w.heap.size, 34, stc .zero none 0)) (by simp); dsimp only at h3; omega)
      have HG2 := Lib.hid (show w.heap.size < g2 from z2 ▸ L1.low (e := (w.heap.size, 34, stc .zero none 0)) (by simp))
      have HS2 := Lib.hid (shs_to hsh (below_of_grown q2))
      have HL2 := Lib.hid L2
      have HFT := Lib.hid hft
      have H8 := Lib.hid h8
      have HXX : Hid (X = knw p k (f :: l.drop (k + 1))) := by show _ = _; rw [HR.out, HDR.out]
      clear hao hb1 hsh q2 L1 he hs hft h8 HR HDR hc
      by_cases h0 : e = 0
      · have hq0 : (e == 0) = true := by rw [h0]; rfl
        have HX2 : Hid (X = (s, k, 0)) := HXX.out.trans (HK0.out h0)
        have l3 := L2.ldA ty_state 1 rfl 0 (vs := stc s ao cap) rfl (Nat.le_of_ble_eq_true rfl)
        obtain ⟨w4, s4, L4, q4⟩ := L2.stA ty_state 0 rfl 0 (stc s ao cap) (cs' := stc s ao cap) rfl (L' := [(w.heap.size, 34, stc s ao cap), (g2, 34, stc s ao cap)]) rfl (Nat.le_of_ble_eq_true rfl) rfl rfl
        have l5 := L4.ldA ty_state 0 rfl 0 (vs := stc s ao cap) rfl (Nat.le_of_ble_eq_true rfl)
        obtain ⟨w6, s6, L6, q6⟩ := L4.stA ty_state 0 rfl 0 (stc s ao cap) (cs' := stc s ao cap) rfl (L' := [(w.heap.size, 34, stc s ao cap), (g2, 34, stc s ao cap)]) rfl (Nat.le_of_ble_eq_true rfl) rfl rfl
        have HL6 := Lib.hid L6
        have HS6 := Lib.hid (show Shs w6 ao s.ss from by
          have HN : Hid (∀ a, ao = some a → s.ss ≠ [] → a.block ≠ w.heap.size) := HAO.out
          exact shs_turn (shs_turn HS2.out q4 HN.out) q6 HN.out)
        clear h0 HK0 HK8 HKN HXX L2 L4 L6 q4 q6 HL2
        go_wp2
        refine bodyPost_ret (shut_kn 4 5 6 _ (k : Int) 0 _ Tryz.results26 (HL6.out.get 0 rfl) rfl rfl rfl rfl) rfl ?_
        rw [HQ.out, HX2.out]
        exact ⟨ao, cap, rfl, HS6.out, HFT.out, H8.out, HL6.out.be⟩
      · have hq0 : (e == 0) = false := beq_eq_false_iff_ne.2 h0
        by_cases h8' : e = 8
        · have hq8 : (e == 8) = true := by rw [h8']; rfl
          have HX2 : Hid (X = (.zero, 0, 8)) := HXX.out.trans (HK8.out h8')
          have l5 := L2.ldA ty_state 0 rfl 0 (vs := stc .zero none 0) rfl (Nat.le_of_ble_eq_true rfl)
          obtain ⟨w6, s6, L6, q6⟩ := L2.stA ty_state 0 rfl 0 (stc .zero none 0) (cs' := stc .zero none 0) rfl (L' := [(w.heap.size, 34, stc .zero none 0), (g2, 34, stc s ao cap)]) rfl (Nat.le_of_ble_eq_true rfl) rfl rfl
          have HL6 := Lib.hid L6
          clear h0 h8' HK0 HK8 HKN HXX L2 L6 q6 HL2
          go_wp2
          refine bodyPost_ret (shut_kn 4 5 6 _ 0 8 _ Tryz.results26 (HL6.out.get 0 rfl) rfl rfl rfl rfl) rfl ?_
          rw [HQ.out, HX2.out]
          exact ⟨none, 0, rfl, shs_none _ _, fit_zero, by decide, HL6.out.be⟩
        · have hq8 : (e == 8) = false := beq_eq_false_iff_ne.2 h8'
          have HX2 := Lib.hid (HXX.out.trans (HKN.out h0 h8'))
          have HL3 := Lib.hid (HL2.out.drop 1 (L' := [(w.heap.size, 34, stc .zero none 0)]) rfl)
          clear h0 h8' HK0 HK8 HKN HXX L2 HL2
          go_wp2
          go_roundg (l.length - k - 1)
          case rel => exact ⟨k + 1, by omega, rfl, rfl, by go_num, HX2.out, HL3.out⟩
          case measure => omega
    · have hlt1 : ¬ (k : Int) < (l.length : Int) := by omega
      have HX2 : Hid (X = (.zero, 0, 5)) := by show _ = _; rw [HR.out, List.drop_of_length_le (by omega)]; rfl
      have l5 := HL.out.ldA ty_state 0 rfl 0 (vs := stc .zero none 0) rfl (Nat.le_of_ble_eq_true rfl)
      obtain ⟨w6, s6, L6, q6⟩ := HL.out.stA ty_state 0 rfl 0 (stc .zero none 0) (cs' := stc .zero none 0) rfl (L' := [(w.heap.size, 34, stc .zero none 0)]) rfl (Nat.le_of_ble_eq_true rfl) rfl rfl
      have HL6 := Lib.hid L6
      clear L6 q6 HR
      go_wp2
      refine bodyPost_ret (shut_kn 4 5 6 _ 0 5 _ Tryz.results26 (HL6.out.get 0 rfl) rfl rfl rfl rfl) rfl ?_
      rw [HQ.out, HX2.out]
      exact ⟨none, 0, rfl, shs_none _ _, fit_zero, by decide, HL6.out.be⟩
end Go.Proofs.YtacgmadgkmcmoaaGreatDoor
