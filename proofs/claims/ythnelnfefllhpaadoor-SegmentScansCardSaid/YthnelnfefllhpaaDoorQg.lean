/- A record put, by the program: one contract. Nothing is assumed but that the record's numbers lie in their kinds' ranges. -/
import Derived.Test.YthnelnfefllhpaaDoorQf
namespace Go.Proofs.YthnelnfefllhpaaDoor
open Go.RowKit
set_option linter.unusedVariables false
set_option linter.unusedSimpArgs false
set_option maxRecDepth 20000

/-- What Put answers: the text, and the error. -/
def pA (r : Rc) : List UInt8 := if mayB r = true then encR r else []
def pE (r : Rc) : Int := if mayB r = true then 0 else 4
theorem encR_le (r : Rc) : (encR r).length ≤ 1099511627776 := Nat.le_trans (encR_len r) (by decide)
attribute [local go_sem ↓] ld_rec st_rec
set_option maxHeartbeats 1000000 in
theorem put_c (r : Rc) (w : World) (hf : r.fit) :
    Calls Tryd.prog 22 #[.agg (rcs r)] w fun E w' => E = .returned (.tuple #[.string (str (pA r)), .int .i64 (pE r)]) ∧ Below w.heap.size w w' := by
  have H0 := Loc.one w 28 (rcs r)
  have HF := Lib.hid hf
  have HY := Lib.hid (fun h : mayB r = true => tkR_enc hf h)
  have HN := Lib.hid (fun h : mayB r = false => put_no h)
  have HA := Lib.hid (fun h : mayB r = true => (show pA r = encR r ∧ pE r = 0 from ⟨if_pos h, if_pos h⟩))
  have HZ := Lib.hid (fun h : mayB r = false => (show pA r = [] ∧ pE r = 4 from ⟨if_neg (by simp [h]), if_neg (by simp [h])⟩))
  have HT := fun w => take_c' (encR r) w (encR_le r)
  generalize pA r = A at *
  generalize pE r = C at *
  generalize tkR (encR r) = T at *
  obtain ⟨e, V⟩ := T
  have HT := Lib.hid HT
  clear hf
  go_enter Tryd.func22, Tryd.ntmps22
  go_upto_region 1 with fail
  generalize w.alloc (.cells (rcs r) 28) = wa at *
  have WS := ws_new wa (fun k => k < wa.heap.size) (fun k h => h)
  have hlt := Lib.hid (H0.low (e := (w.heap.size, 28, rcs r)) (by simp))
  have H1 := H0.grown (grown_alloc wa (.cells #[.slice none 0 0] 87))
  go_upto_region 2 with fail
  generalize wa.alloc (.cells #[.slice none 0 0] 87) = wb at *
  obtain ⟨S, hS⟩ : ∃ S : Nat → Prop, S = fun k => k < wa.heap.size := ⟨_, rfl⟩
  rw [← hS] at WS
  have S0 := Lib.hid (show S w.heap.size by rw [hS]; exact hlt.out)
  have SB := Lib.hid (show ∀ k, k < w.heap.size → S k by rw [hS]; intro k hk; have := hlt.out; dsimp only at *; omega)
  clear hS hlt
  generalize wa.heap.size = gw at *
  have WS := Lib.hid WS
  go_wp2_with fail
  refine (encW gw w.heap.size S r wb HF.out WS.out (H1.get 0 rfl) S0.out).mono ?_
  rintro E w2 ⟨rfl, hw2⟩
  have H2 := H1.kept hw2.2 SB.out (List.Sublist.refl _) (fun x hx => by rw [List.mem_singleton] at hx; subst hx; exact S0.out)
  have W2 := Lib.hid hw2.1
  clear hw2 H0 H1 WS
  have H2 := Lib.hid H2
  go_wp2_with fail
  refine (wsBytes gw S (encR r) w2 W2.out).mono ?_
  rintro E w' ⟨rfl, rfl⟩
  go_wp2_with fail
  refine (HT.out w2).mono ?_
  rintro E w3 ⟨rfl, hb3⟩
  have H3 := H2.out.to hb3
  obtain ⟨g6, w4, z4, s4, H4, q4⟩ := H3.newA ty_rec #[.int .i64 0, .int .u64 0, .int .u8 0, .int .u8 0, .int .u8 0, .int .u64 0, .int .u64 0, .int .u64 0, .int .u8 0] (rcs V) rfl rfl rfl
  replace H4 : Loc w.heap.size w w4 [(w.heap.size, 28, rcs r), (g6, 28, rcs V)] := H4
  have l0 := H4.ldA ty_rec 0 rfl 0 (vs := rcs r) rfl (Nat.le_of_ble_eq_true rfl)
  have l1 := H4.ldA ty_rec 1 rfl 0 (vs := rcs V) rfl (Nat.le_of_ble_eq_true rfl)
  have HB := Lib.hid H4.be
  have hq := re_neq V r
  clear H3 H2 H4 hb3 q4
  cases hm : mayB r
  · obtain ⟨rfl, rfl⟩ := HZ.out hm
    have hn := HN.out hm
    by_cases he : e = 0
    · subst he
      have hv : V ≠ r := by rcases hn with h | h; exact absurd rfl h; exact h
      rw [reB_not hv] at hq
      clear hn hm
      go_wp2
      go_ret2
      exact ⟨rfl, HB.out⟩
    · have hq0 : (e == 0) = false := beq_eq_false_iff_ne.2 he
      have hq1 : (e != 0) = true := by simp [he]
      clear hn hm he
      go_wp2
      go_ret2
      exact ⟨rfl, HB.out⟩
  · obtain ⟨rfl, rfl⟩ := HA.out hm
    obtain ⟨rfl, rfl⟩ := Prod.mk.inj (HY.out hm)
    rw [reB_self] at hq
    clear hm
    go_wp2
    go_ret2
    exact ⟨rfl, HB.out⟩
end Go.Proofs.YthnelnfefllhpaaDoor
