/- The document's disk: New, Create, Remove, Rename. -/
import Derived.Test.YthjhjbiihhpnfaaGreatEd
namespace Go.Proofs.YthjhjbiihhpnfaaGreat
open Go.RowKit Go.Shelf Go.Deep
set_option linter.unusedVariables false
set_option linter.unusedSimpArgs false
set_option maxRecDepth 100000

theorem del_cut {E : List Ent} (hs : Srt Ent.nm E) {j : Nat} (hj : j < E.length) {n : List UInt8} (hn : (E[j]'hj).nm = n) : delK Ent.nm n E = E.take j ++ E.drop (j + 1) := by
  have hp := List.pairwise_iff_getElem.1 hs
  have h1 : delK Ent.nm n (E.take j) = E.take j := List.filter_eq_self.2 fun x hx => by
    obtain ⟨i, hi, rfl⟩ := List.getElem_of_mem hx
    rw [List.length_take] at hi
    have := hp i j (by omega) hj (by omega)
    rw [hn] at this
    rw [List.getElem_take]
    simpa using nm_lt_ne this
  have h2 : delK Ent.nm n (E.drop (j + 1)) = E.drop (j + 1) := List.filter_eq_self.2 fun x hx => by
    obtain ⟨i, hi, rfl⟩ := List.getElem_of_mem hx
    rw [List.length_drop] at hi
    have := hp j (j + 1 + i) hj (by omega) (by omega)
    rw [hn] at this
    rw [List.getElem_drop]
    simpa using (nm_lt_ne this).symm
  have hE : E = E.take j ++ (E[j]'hj) :: E.drop (j + 1) := by rw [List.getElem_cons_drop, List.take_append_drop]
  conv => lhs; rw [hE]
  unfold delK at h1 h2 ⊢
  rw [List.filter_append, List.filter_cons, h1, h2]
  simp [hn]
theorem RkS.of {S : Nat → Prop} {w : World} {g q : Nat} {E : List Ent} (h : RkS S w (.pointer (some ⟨g, 0, none⟩)) q E) : ∃ ao cap, RkC S w g q ao cap E := by
  obtain ⟨g', ao, cap, he, h⟩ := h
  injection he with he
  injection he with he
  injection he with he
  subst he
  exact ⟨ao, cap, h⟩
def RNewPost (n : Int) (w : World) (R : Ending) (w' : World) : Prop := Below w.heap.size w w' ∧
  ((1 ≤ n ∧ n ≤ 1048576 ∧ ∃ v, R = .returned v ∧ RkS (fun x => w.heap.size ≤ x) w' v n.toNat []) ∨ ((n < 1 ∨ 1048576 < n) ∧ R = .returned (.pointer none)))
theorem rnew_c (n : Int) (w : World) : Calls Tryz.prog 9 #[.int .i64 n] w (RNewPost n w) := by
  by_cases h1 : n < 1
  · go_enter Tryz.func9, Tryz.ntmps9
    go_wp2
    go_ret
    exact ⟨Below.refl _ _, .inr ⟨.inl h1, rfl⟩⟩
  by_cases h2 : 1048576 < n
  · go_enter Tryz.func9, Tryz.ntmps9
    go_wp2
    go_ret
    exact ⟨Below.refl _ _, .inr ⟨.inr h2, rfl⟩⟩
  obtain ⟨k, rfl⟩ : ∃ k : Nat, n = (k : Int) := ⟨n.toNat, by omega⟩
  go_enter Tryz.func9, Tryz.ntmps9
  go_wp2
  go_ret
  refine ⟨below_alloc w _, .inl ⟨by omega, by omega, _, rfl, w.heap.size, none, 0, rfl, ⟨?_, FRow.nil _ _, Nat.le_refl _, by simp [Value.ownBlock], ?_⟩⟩⟩
  · exact Cells.made w 70 #[.int .i64 k, .slice none 0 0]
  · exact ⟨by simp; omega, by simp; omega, List.Pairwise.nil, by simp, by simp, by simp, by simp, by simp [used]⟩
section
variable {S : Nat → Prop} {w : World} {g q cap : Nat} {ao : Option Addr} {E : List Ent}
theorem fnd_ne {n : List UInt8} (h : fnd n E = none) : ∀ y ∈ E, y.nm ≠ n := fun y hy => by simpa using List.find?_eq_none.1 h y hy
theorem eCreate_rd (E : List Ent) (n : List UInt8) : eCreate E n = if isNm n then (match fnd n E with | some _ => 6 | none => if 64 ≤ E.length then 7 else 0) else 2 := rfl
theorem aCreate_no {n : List UInt8} (h : eCreate E n ≠ 0) : aCreate E n = E := by unfold aCreate; rw [if_neg h]
set_option maxHeartbeats 1000000 in
theorem rcreate_c (h : RkC S w g q ao cap E) (hS : ∀ x, w.heap.size ≤ x → S x) (n : List UInt8) (hn : n.length ≤ maxLen) :
    Calls Tryz.prog 47 #[.pointer (some ⟨g, 0, none⟩), .string (str n)] w fun R w' => R = .returned (.int .i64 (eCreate E n)) ∧ RkS S w' (.pointer (some ⟨g, 0, none⟩)) q (aCreate E n) ∧ Tu S w w' := by
  have hr := rname_c n w hn
  have HAt := Lib.hid (at_c h n)
  have HK := Lib.hid h
  have hel := h.good.len
  have c1 := h.c1
  have HG := Lib.hid (good_create h.good n)
  have HSS := Lib.hid hS
  have HE := Lib.hid (eCreate_rd E n)
  have HN := Lib.hid (@aCreate_no E n)
  clear h hS
  cases hq : isNm n with
  | false =>
    rw [hq] at hr
    have he : eCreate E n = 2 := by rw [HE.out, hq]; rfl
    have H2 := Lib.hid (show eCreate E n = 2 ∧ aCreate E n = E from ⟨he, HN.out (by rw [he]; decide)⟩)
    clear hq he
    go_enter Tryz.func47, Tryz.ntmps47
    go_wp2_with fail
    refine hr.mono ?_
    rintro R w1 ⟨rfl, rfl⟩
    go_wp2
    go_ret
    exact ⟨by rw [H2.out.1]; rfl, ⟨_, _, _, rfl, by rw [H2.out.2]; exact HK.out⟩, Tu.refl _ _⟩
  | true =>
    rw [hq] at hr
    have HQ := Lib.hid hq
    clear hq
    go_enter Tryz.func47, Tryz.ntmps47
    go_wp2_with fail
    refine hr.mono ?_
    rintro R w1 ⟨rfl, rfl⟩
    go_wp2_with fail
    refine HAt.out.mono ?_
    rintro R w1 ⟨rfl, ⟨hf, rfl⟩ | ⟨j, hj, hjn, _, hf, rfl⟩⟩
    · by_cases h64 : 64 ≤ E.length
      · have he : eCreate E n = 7 := by rw [HE.out, HQ.out, hf]; simp [h64]
        have H2 := Lib.hid (show eCreate E n = 7 ∧ aCreate E n = E from ⟨he, HN.out (by rw [he]; decide)⟩)
        have i1 : (64 : Int) ≤ (E.length : Int) := by omega
        clear hf he
        go_wp2
        go_ret
        exact ⟨by rw [H2.out.1]; rfl, ⟨_, _, _, rfl, by rw [H2.out.2]; exact HK.out⟩, Tu.refl _ _⟩
      · have he : eCreate E n = 0 := by rw [HE.out, HQ.out, hf]; simp [h64]
        have ha : aCreate E n = insK Ent.nm ⟨n, [], 0⟩ E := by unfold aCreate; rw [if_pos he]
        have H2 := Lib.hid (show eCreate E n = 0 ∧ aCreate E n = insK Ent.nm ⟨n, [], 0⟩ E from ⟨he, ha⟩)
        have i1 : ¬ (64 : Int) ≤ (E.length : Int) := by omega
        have HP := Lib.hid (put2_c ⟨n, [], 0⟩ HK.out HSS.out (fnd_ne hf) (by rw [← ha]; exact HG.out))
        clear hf he ha
        go_wp2_with fail
        refine HP.out.mono ?_
        rintro R w2 ⟨rfl, h2, ht⟩
        have HR2 := Lib.hid h2
        have HT2 := Lib.hid ht
        clear h2 ht
        go_wp2
        go_ret
        exact ⟨by rw [H2.out.1]; rfl, by rw [H2.out.2]; exact HR2.out, HT2.out⟩
    · have he : eCreate E n = 6 := by rw [HE.out, HQ.out, hf]; rfl
      have H2 := Lib.hid (show eCreate E n = 6 ∧ aCreate E n = E from ⟨he, HN.out (by rw [he]; decide)⟩)
      have i1 : (0 : Int) ≤ (j : Int) := by omega
      clear hf he hjn
      go_wp2
      go_ret
      exact ⟨by rw [H2.out.1]; rfl, ⟨_, _, _, rfl, by rw [H2.out.2]; exact HK.out⟩, Tu.refl _ _⟩
theorem rremove_c (h : RkC S w g q ao cap E) (hS : ∀ x, w.heap.size ≤ x → S x) (n : List UInt8) (hn : n.length ≤ maxLen) :
    Calls Tryz.prog 51 #[.pointer (some ⟨g, 0, none⟩), .string (str n)] w fun R w' => R = .returned (.int .i64 (eFind E n)) ∧ RkS S w' (.pointer (some ⟨g, 0, none⟩)) q (aRemove E n) ∧ Tu S w w' := by
  have hl := look2_c h n hn
  have HK := Lib.hid h
  have HSS := Lib.hid hS
  have HF : Hid (eFind E n = if isNm n then (match fnd n E with | some _ => 0 | none => 5) else 2) := rfl
  have HA : Hid (aRemove E n = if isNm n then delK Ent.nm n E else E) := rfl
  clear h hS
  go_enter Tryz.func51, Tryz.ntmps51
  go_wp2_with fail
  refine hl.mono ?_
  rintro R w1 ⟨rfl, ⟨h1, rfl⟩ | ⟨h1, h2, rfl⟩ | ⟨j, hj, h1, h2, h3, rfl⟩⟩
  · have H1 := Lib.hid h1
    clear h1
    go_wp2
    go_ret
    exact ⟨by rw [HF.out, H1.out]; rfl, ⟨_, _, _, rfl, by rw [HA.out, H1.out]; exact HK.out⟩, Tu.refl _ _⟩
  · have H1 := Lib.hid h1
    have H2 := Lib.hid h2
    clear h1 h2
    go_wp2
    go_ret
    exact ⟨by rw [HF.out, H1.out, H2.out]; rfl, ⟨_, _, _, rfl, by rw [HA.out, H1.out, delK_none H2.out]; exact HK.out⟩, Tu.refl _ _⟩
  · have hd := del_cut HK.out.good.srt hj h2
    have HP := Lib.hid (drop_c HK.out HSS.out hj (by rw [← hd]; exact good_del HK.out.good n))
    rw [← hd] at HP
    have HE : Hid (aRemove E n = delK Ent.nm n E) := by show _ = _; rw [HA.out, h1]; rfl
    have HFF : Hid (eFind E n = 0) := by show _ = _; rw [HF.out, h1, h3]; rfl
    clear h1 h2 h3 hd
    go_wp2_with fail
    refine HP.out.mono ?_
    rintro R w2 ⟨rfl, h2, ht⟩
    have HR2 := Lib.hid h2
    have HT2 := Lib.hid ht
    clear h2 ht
    go_wp2
    go_ret
    exact ⟨by rw [HFF.out]; rfl, by rw [HE.out]; exact HR2.out, HT2.out⟩
end
end Go.Proofs.YthjhjbiihhpnfaaGreat
