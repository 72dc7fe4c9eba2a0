/- The document's history: Add, At. Nothing is assumed beyond each contract's own bounds. -/
import Derived.Test.YtgmbdadkahcpcaaDoorWc
import Derived.Test.YtgmbdadkahcpcaaDoorWf
import Derived.Laws.AppendOwnNone
import Derived.IntWalk
namespace Go.Proofs.YtgmbdadkahcpcaaDoor
open Go.RowKit
set_option linter.unusedVariables false
set_option linter.unusedSimpArgs false
set_option maxRecDepth 20000
theorem ty_rhist : TyA 43 3 := tya_struct Tryd.underlying43 (by kernel_rfl)
theorem ty_pairs : TyO 31 := tyo_of Tryd.underlying31 rfl (by kernel_rfl)
theorem ty_int : TyO 3 := tyo_of Tryd.underlying3 rfl (by kernel_rfl)
theorem ld_pairs (v : Value) : Instr.loadAt 31 v = ldT 31 v := rfl
theorem st_pairs (p v : Value) : Instr.storeAt 31 p v = stT 31 p v := rfl
theorem ld_int (v : Value) : Instr.loadAt 3 v = ldT 3 v := rfl
theorem Prr.apart {B : Nat} {w : World} {bs bs' : List Nat} {ao : Option Addr} {n cap : Nat} {l : List (Nat × Nat)} (h : Prr B w bs ao n cap l) (hb : ∀ b ∈ bs', b < B) (hw : B ≤ w.heap.size) : Prr B w bs' ao n cap l :=
  ⟨h.own, h.len, fun b hbb e => by have h1 := (h.own.lt b e).1; have h2 := hb b hbb; omega, fun b hbb => Nat.lt_of_lt_of_le (hb b hbb) hw, h.nil⟩
/-- append(nil, l...): a row of one's own. -/
theorem wpList_append_prs {w : World} {ops : Array Oper} {rest : List Oper} {o : Oper} {a : Act} {Q : Exit → Act → World → Prop} (hgd : o.guard = none) (s x : Operand)
    (ho : o.op = .call { callee := .builtin .append, args := #[s, x], argTypes := #[31, 31] }) (ao : Option Addr) (cap : Nat) (l : List (Nat × Nat)) (hs : a.eval s = .slice none 0 0) (hx : a.eval x = .slice ao l.length cap)
    (hsh : Pis w ao l) (hn : ao = none → cap = 0) (hl : l.length ≤ 1000000)
    (h : ∀ ao' cap' w', Prr w.heap.size w' [] ao' l.length cap' l → w.grownBy w' none → wpList Tryd.prog ops Q rest (a.put o.dst (.slice ao' l.length cap')) w') :
    wpList Tryd.prog ops Q (o :: rest) a w := by
  obtain ⟨i0, hi0, hz0, hz1, hz2⟩ := info_parts info_Pair
  have hown : w.ownsRow w.heap.size 47 2 (.slice none 0 0) 0 [] := World.ownsRow_nil _ _ _ _
  by_cases h0 : l.length = 0
  · have e := List.eq_nil_of_length_eq_zero h0
    subst e
    cases ao with
    | none =>
      obtain rfl := hn rfl
      exact wpList_append_own_none hgd s x 31 ho w.heap.size 47 i0 2 Tryd.underlying31 hi0 (.slice none 0 0) 0 [] hs hown hx (h none 0 w (Prr.none _ _ _ (fun b hb => by cases hb)) (grown_refl _ _))
    | some ad =>
      refine wpList_append_own w hgd s x 31 ho w.heap.size 47 i0 (.agg #[.int .u8 0, .int .u8 0]) 2 2 Tryd.underlying31 hi0 hz0 hz1 hz2 rfl (by decide) (.slice none 0 0) 0 [] hs hown ad 0 cap [] hx rfl (by simp) (by simp) (by simp [maxLen]) (by omega) (Nat.le_refl _) ?_
      intro v' w1 hown1 hgr hnil
      obtain rfl := hnil.2 ⟨rfl, rfl⟩
      exact h none 0 w1 ⟨hown1, rfl, (fun b hb => by cases hb), (fun b hb => by cases hb), fun _ => rfl⟩ hgr
  · obtain ⟨_, _, b, o', rfl, _⟩ := hsh 0 (by omega)
    refine wpList_append_lies w hgd s x 31 ho w.heap.size 47 i0 (.agg #[.int .u8 0, .int .u8 0]) 2 2 Tryd.underlying31 hi0 hz0 hz1 hz2 rfl (by decide) (.slice none 0 0) 0 [] hs hown ⟨b, o', none⟩ l.length cap (prc l) hx (prc_len l) (prc_news hsh) (prc_one l) (by omega) (by simp only [maxLen]; omega) (by omega) (Nat.le_refl _) _ rfl ?_
    intro g' cap' w1 hown1 hgr hat hlt1
    rw [Nat.zero_add, List.nil_append] at hown1
    rw [Nat.zero_add]
    exact h _ cap' w1 ⟨hown1, rfl, (fun b hb => by cases hb), (fun b hb => by cases hb), fun e => by cases e⟩ hgr
section
variable {r F M n cap p q : Nat} {lo : Option Addr} {w : World}
theorem raddBad_c (h : RHc w r F M lo n cap) (hp : p < 256) (hq : q < 256) (hb : 63 < p ∨ 63 < q) : Calls Tryd.prog 29 #[.pointer (some ⟨r, 0, none⟩), .agg #[.int .u8 (p : Int), .int .u8 (q : Int)]] w fun E w' => E = .returned (.int .i64 2) ∧ Below w.heap.size w w' := by
  have b0 := (Cells.made w 47 #[.int .u8 (p : Int), .int .u8 (q : Int)]).cell 0
  have b1 := (Cells.made w 47 #[.int .u8 (p : Int), .int .u8 (q : Int)]).cell 1
  have HB := Lib.hid ((Below.refl w.heap.size w).alloc (Nat.le_refl _) (.cells #[.int .u8 (p : Int), .int .u8 (q : Int)] 47))
  clear h
  go_enter Tryd.func29, Tryd.ntmps29
  go_upto_region 1 with fail
  generalize w.alloc (.cells #[.int .u8 (p : Int), .int .u8 (q : Int)] 47) = wa at *
  by_cases hp6 : 63 < p
  · have i1 : (63 : Int) < p := by omega
    go_wp2
    go_ret
    exact ⟨rfl, HB.out⟩
  · have i1 : ¬ (63 : Int) < p := by omega
    have i2 : (63 : Int) < q := by omega
    go_wp2
    go_ret
    exact ⟨rfl, HB.out⟩
theorem raddFull_c (h : RHc w r F M lo n cap) (hp : p < 64) (hq : q < 64) (hn : F + n < 18446744073709551616) (hM : M < 4096) (hb : n = M ∨ F + n = 18446744073709551615) : Calls Tryd.prog 29 #[.pointer (some ⟨r, 0, none⟩), .agg #[.int .u8 (p : Int), .int .u8 (q : Int)]] w fun E w' => E = .returned (.int .i64 7) ∧ Below w.heap.size w w' := by
  have HH := Lib.hid (h.alloc (.cells #[.int .u8 (p : Int), .int .u8 (q : Int)] 47))
  have b0 := (Cells.made w 47 #[.int .u8 (p : Int), .int .u8 (q : Int)]).cell 0
  have b1 := (Cells.made w 47 #[.int .u8 (p : Int), .int .u8 (q : Int)]).cell 1
  have HB := Lib.hid ((Below.refl w.heap.size w).alloc (Nat.le_refl _) (.cells #[.int .u8 (p : Int), .int .u8 (q : Int)] 47))
  have i1 : ¬ (63 : Int) < p := by omega
  have i2 : ¬ (63 : Int) < q := by omega
  clear h
  go_enter Tryd.func29, Tryd.ntmps29
  go_upto_region 1 with fail
  generalize w.alloc (.cells #[.int .u8 (p : Int), .int .u8 (q : Int)] 47) = wa at *
  go_upto_region 3 with fail
  have c1 := HH.out.cell 1
  have c2 := HH.out.cell 2
  clear b0 b1 i1 i2
  by_cases hb1 : n = M
  · have g1 : ((n : Int) == (M : Int)) = true := beq_iff_eq.2 (by omega)
    clear hb hb1 hp hq
    go_quiet (fail)
    go_wp2
    go_ret
    exact ⟨rfl, below_drewN HB.out _⟩
  · have g1 : ((n : Int) == (M : Int)) = false := beq_eq_false_iff_ne.2 (by omega)
    have g2 : (((F + n : Nat) : Int) == 18446744073709551615) = true := beq_iff_eq.2 (by omega)
    have CC : Hid (∀ k, Calls Tryd.prog 18 #[.pointer (some ⟨r, 0, none⟩)] (wa.drewN k) fun E w' => E = .returned (.int .u64 ((F + n : Nat) : Int)) ∧ ∃ m, w' = (wa.drewN k).drewN m) := fun k => rcount_c r F M lo n cap (wa.drewN k) (HH.out.below (below_drewN (Below.refl _ _) k) HH.out.lt) hn
    generalize F + n = s at *
    clear hb hb1 hp hq
    go_quiet (first | (go_at_call 18; exact Calls.quiet_of (CC.out _)))
    go_wp2
    go_ret
    exact ⟨rfl, below_drewN HB.out _⟩
end
attribute [local go_sem ↓] ld_pair ld_u64 ld_pairs ld_int st_pair st_u64 st_pairs
set_option maxHeartbeats 1000000 in
theorem raddOk_c {r F M cap p q : Nat} {l : List (Nat × Nat)} {lo : Option Addr} {w : World} (h : RHc w r F M lo l.length cap) (hP : Pis w lo l) (h0 : lo = none → cap = 0) (hp : p < 64) (hq : q < 64) (hn : F + l.length < 18446744073709551615) (hM : M < 4096) (hl : l.length ≤ 256) (hb : l.length ≠ M) :
    Calls Tryd.prog 29 #[.pointer (some ⟨r, 0, none⟩), .agg #[.int .u8 (p : Int), .int .u8 (q : Int)]] w fun E w' => ∃ b cap', E = .returned (.int .i64 0) ∧ RHc w' r F M (some ⟨b, 0, none⟩) (l ++ [(p, q)]).length cap' ∧ Pis w' (some ⟨b, 0, none⟩) (l ++ [(p, q)]) ∧ w.heap.size ≤ b ∧ (l ++ [(p, q)]).length ≤ cap' ∧ w.grownBy w' (some r) := by
  have HH := Lib.hid h
  have HP := Lib.hid hP
  have HN0 := Lib.hid h0
  have H0 := Lib.hid (Loc.one w 47 #[.int .u8 (p : Int), .int .u8 (q : Int)])
  have hrlt := h.lt
  have i1 : ¬ (63 : Int) < p := by omega
  have i2 : ¬ (63 : Int) < q := by omega
  have HALL := Lib.hid (show ∀ z ∈ l ++ [(p, q)], z.1 < 256 ∧ z.2 < 256 from fun z hz => by
    rcases List.mem_append.1 hz with h | h
    · exact hP.all z h
    · rw [List.mem_singleton] at h; subst h; exact ⟨by omega, by omega⟩)
  clear h hP h0
  go_enter Tryd.func29, Tryd.ntmps29
  go_upto_region 1 with fail
  generalize w.alloc (.cells #[.int .u8 (p : Int), .int .u8 (q : Int)] 47) = wa at *
  have b0 := (H0.out.get 0 rfl).cell 0
  have b1 := (H0.out.get 0 rfl).cell 1
  go_upto_region 3 with fail
  have HA : Hid (∀ k, RHc (wa.drewN k) r F M lo l.length cap) := fun k => HH.out.below (below_drewN H0.out.be k) HH.out.lt
  have c1 := fun k => run_ldO ty_int (HA.out k) 1 (v := .int .i64 (M : Int)) rfl
  have c2 := fun k => run_ldO ty_pairs (HA.out k) 2 (v := .slice lo l.length cap) rfl
  clear b0 b1 i1 i2
  have g1 : ((l.length : Int) == (M : Int)) = false := beq_eq_false_iff_ne.2 (by omega)
  have g2 : (((F + l.length : Nat) : Int) == 18446744073709551615) = false := beq_eq_false_iff_ne.2 (by omega)
  have CC : Hid (∀ k, Calls Tryd.prog 18 #[.pointer (some ⟨r, 0, none⟩)] (wa.drewN k) fun E w' => E = .returned (.int .u64 ((F + l.length : Nat) : Int)) ∧ ∃ m, w' = (wa.drewN k).drewN m) := fun k => rcount_c r F M lo l.length cap (wa.drewN k) (HA.out k) (by omega)
  generalize hs : F + l.length = s at *
  clear hs hb hp hq
  go_quiet (first | (go_at_call 18; exact Calls.quiet_of (CC.out _)))
  clear c1 c2 CC g1 g2
  have H1 := Lib.hid (H0.out.to (below_drewN (Below.refl wa.heap.size wa) nq))
  have HH1 := Lib.hid (HA.out nq)
  clear H0 HA
  generalize wa.drewN nq = wb at *
  have c2 := run_ldO ty_pairs HH1.out 2 (v := .slice lo l.length cap) rfl
  go_upto_region 7 with (at_builtin; refine wpList_append_prs rfl _ _ rfl lo cap l (by simp [Act.eval]) (by simp [Act.eval]) (HP.out.to H1.out.be) HN0.out (by omega) ?_; intro ao3 cap3 w3 hR3 hg3; have HR3 := Lib.hid hR3; have H3 := Lib.hid (H1.out.grown hg3); have hs3 := hg3.size; clear hR3 hg3)
  clear c2
  have hsz := H1.out.size
  have HR4 : Hid (Prr w.heap.size w3 [w.heap.size] ao3 l.length cap3 l) := (HR3.out.apart (bs' := [w.heap.size]) (by intro b hb; simp only [List.mem_singleton] at hb; subst hb; exact (H1.out.get 0 rfl).lt) hs3).low hsz
  have l2 := H3.out.ldA ty_pair 0 rfl 0 (vs := #[.int .u8 (p : Int), .int .u8 (q : Int)]) rfl (Nat.le_of_ble_eq_true rfl)
  go_wp2_with (at_builtin; refine wpList_append_pi rfl _ _ rfl (by simp [Act.eval]) (p, q) _ rfl (by simp [Act.eval]) HR4.out H3.out (by simp) (by omega) ?_; intro r5 cap5 w7 hR7 hL7; obtain ⟨w8, s8, H8, q8⟩ := (Loc.held (HH.out.below hL7.be HH.out.lt)).stO ty_pairs 0 rfl 2 (.slice (some ⟨r5, 0, none⟩) (l.length + 1) cap5) (cs' := #[.int .u64 (F : Int), .int .i64 (M : Int), .slice (some ⟨r5, 0, none⟩) (l.length + 1) cap5]) rfl (L' := [(r, 43, #[.int .u64 (F : Int), .int .i64 (M : Int), .slice (some ⟨r5, 0, none⟩) (l.length + 1) cap5])]) rfl (Nat.le_of_ble_eq_true rfl) rfl rfl; have HR7 := Lib.hid hR7; have H88 := Lib.hid H8; have HL7 := Lib.hid hL7.be; have Q8 := Lib.hid q8; clear hR7 hL7 H8 q8)
  go_ret
  refine ⟨r5, cap5, rfl, ?_, ?_, ?_, ?_, ?_⟩
  · rw [List.length_append]; exact H88.out.get 0 rfl
  · exact ((HR7.out.apart (bs' := [r]) (by intro b hb; simp only [List.mem_singleton] at hb; subst hb; exact hrlt) HL7.out.size).turn (by simp) Q8.out).pis HALL.out
  · exact (HR7.out.ge _ rfl).1
  · rw [List.length_append]; exact HR7.out.caps.1
  · exact (grown_of_below HL7.out).trans Q8.out
end Go.Proofs.YtgmbdadkahcpcaaDoor
