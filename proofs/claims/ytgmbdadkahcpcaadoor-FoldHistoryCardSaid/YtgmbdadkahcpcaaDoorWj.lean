/- The document's history: Drop; what a history is in memory, the program's and the document's. Nothing is assumed beyond each contract's own bounds. -/
import Derived.Test.YtgmbdadkahcpcaaDoorWi
namespace Go.Proofs.YtgmbdadkahcpcaaDoor
open Go.RowKit
set_option linter.unusedVariables false
set_option linter.unusedSimpArgs false
set_option maxRecDepth 20000
/-- A slice of pairs cut: a mark for the walk. -/
def slT (v : Value) (l h m : Option Value) : Sem Value := Instr.slice 31 v l h m
theorem sl_pairs (v : Value) (l h m : Option Value) : Instr.slice 31 v l h m = slT v l h m := rfl
theorem run_slT (b o n cap : Nat) (h1 : 1 ≤ n) (h2 : n ≤ cap) (w : World) : (slT (.slice (some ⟨b, o, none⟩) n cap) (some (.int .i64 1)) none none).run Tryd.prog w = .ok (.slice (some ⟨b, if cap = 1 then o else o + 2, none⟩) (n - 1) (cap - 1)) w := by
  have hC : (Tryd.prog.info? 47).map (·.size) = some 2 := by kernel_rfl
  obtain ⟨i, hi, hs⟩ := Option.map_eq_some_iff.1 hC
  have hn : (1 : Int) ≤ n := by omega
  have hadd : (⟨b, o, none⟩ : Addr).add 2 = ⟨b, o + 2, none⟩ := by unfold Addr.add; split <;> simp_all
  by_cases hc : cap = 1
  · subst hc
    obtain rfl : n = 1 := by omega
    simp [slT, Instr.slice, Instr.sliceBounds, Instr.sliceBound, run_underlying Tryd.underlying31, sizeOf, typeInfo, hi, hs, go_sem]
  · simp [slT, Instr.slice, Instr.sliceBounds, Instr.sliceBound, run_underlying Tryd.underlying31, sizeOf, typeInfo, hi, hs, go_sem, hn, hc, hadd, h1]
theorem Pix.tl {w : World} {bs : List Nat} {b o o' : Nat} {l : List (Nat × Nat)} (h : Pix w bs (some ⟨b, o, none⟩) l) (ho : 1 < l.length → o' = o + 2) : Pix w bs (some ⟨b, o', none⟩) (l.drop 1) := by
  refine ⟨fun k hk => ?_, fun a ea => ?_⟩
  · have hk' : 1 + k < l.length := by rw [List.length_drop] at hk; omega
    obtain ⟨h1, h2, b1, o1, e1, h3, h4⟩ := h.pis (1 + k) hk'
    injection e1 with e1
    injection e1 with e1 e2
    subst e1 e2
    rw [List.getElem_drop]
    refine ⟨h1, h2, b, o', rfl, ?_, ?_⟩
    · rw [ho (by omega), show o + 2 + k * 2 = o + (1 + k) * 2 by omega]; exact h3
    · rw [ho (by omega), show o + 2 + k * 2 + 1 = o + (1 + k) * 2 + 1 by omega]; exact h4
  · cases ea
    exact h.far ⟨b, o, none⟩ rfl
/-- The document's history in block r: these pairs, from frame F on; nothing of it lies in these blocks. -/
def RH (w : World) (bs : List Nat) (r F M : Nat) (l : List (Nat × Nat)) : Prop :=
  ∃ lo cap, RHc w r F M lo l.length cap ∧ Pix w bs lo l ∧ (lo = none → cap = 0) ∧ l.length ≤ cap
def lenAt (w : World) (r : Nat) : Nat := match w.cell? ⟨r, 2, none⟩ with
  | some (.slice _ n _) => n
  | _ => 0
theorem lenAt_of {w : World} {r F M n cap : Nat} {lo : Option Addr} (h : RHc w r F M lo n cap) : lenAt w r = n := by
  have := h.cell 2
  unfold lenAt
  rw [this]
  rfl
attribute [local go_sem ↓] ld_pair ld_u64 ld_pairs ld_int st_pair st_u64 st_pairs sl_pairs
set_option maxHeartbeats 1000000 in
theorem rdrop_c {r F M : Nat} {bs : List Nat} {l : List (Nat × Nat)} {w : World} (h : RH w bs r F M l) (hr : r ∈ bs) (hn : F + l.length < 18446744073709551616) (x : Nat) :
    Calls Tryd.prog 33 #[.pointer (some ⟨r, 0, none⟩), .int .u64 (x : Int)] w fun E w' => E = .returned (.tuple #[]) ∧ RH w' bs r (F + min (x - F) l.length) M (l.drop (x - F)) ∧ w.grownBy w' (some r) := by
  obtain ⟨lo, cap, h1, h2, h3, h4⟩ := h
  have H1 := Lib.hid h1
  have H2 := Lib.hid h2
  have H3 := Lib.hid h3
  have H4 := Lib.hid h4
  clear h1 h2 h3 h4
  go_enter Tryd.func33, Tryd.ntmps33
  go_wp2
  go_loopw [4] (fun _ wr => ∃ (j cap' : Nat) (lo' : Option Addr), j ≤ l.length ∧ j ≤ x - F ∧ Hid (RHc wr r (F + j) M lo' (l.drop j).length cap') ∧ Hid (Pix wr bs lo' (l.drop j)) ∧ Hid (lo' = none → cap' = 0) ∧ Hid ((l.drop j).length ≤ cap') ∧ Hid (w.grownBy wr (some r))) (fun _ wr => lenAt wr r)
  case atStart => exact ⟨0, cap, lo, by omega, by omega, H1.out, H2.out, H3.out, H4.out, grown_refl _ _⟩
  case round =>
    obtain ⟨j, cap', lo', hj, hjx, HA, HP, HN, HC, HG⟩ := hrel
    have HM : Hid (lenAt wr r = l.length - j) := by show _ = _; rw [lenAt_of HA.out, List.length_drop]
    have hdl : (l.drop j).length = l.length - j := List.length_drop ..
    rw [hdl] at HA HC
    have c0 := run_ldO ty_u64 HA.out 0 (v := .int .u64 ((F + j : Nat) : Int)) rfl
    have c2 := run_ldO ty_pairs HA.out 2 (v := .slice lo' (l.length - j) cap') rfl
    by_cases h1 : j < l.length
    · have i1 : (0 : Int) < ((l.length - j : Nat) : Int) := by omega
      have e3 : IntKind.u64.wrap (((F + j : Nat) : Int) + 1) = ((F + (j + 1) : Nat) : Int) := by rw [show ((F + j : Nat) : Int) + 1 = ((F + (j + 1) : Nat) : Int) by omega]; exact u64_id _ (by omega) (by omega)
      have i1n : 0 < l.length - j := by omega
      by_cases h2 : F + j < x
      · have i2 : ((F + j : Nat) : Int) < (x : Int) := by omega
        obtain ⟨b0, o0, i', j', rfl, hi', hj', hx'⟩ := HP.out.pis.at 0 (by omega)
        clear hx' hi' hj'
        obtain ⟨o1, ho1⟩ : ∃ o1, (if cap' = 1 then o0 else o0 + 2) = o1 := ⟨_, rfl⟩
        have sl := run_slT b0 o0 (l.length - j) cap' (by omega) HC.out wr
        rw [ho1] at sl
        have HPN := Lib.hid (HP.out.tl (o' := o1) (by intro h; rw [← ho1, if_neg]; have := HC.out; omega))
        rw [List.drop_drop] at HPN
        have HAA := Lib.hid HA.out
        generalize hn1 : l.length - j = n1 at *
        obtain ⟨w1, s1, K1, q1⟩ := (Loc.held HAA.out).stO ty_pairs 0 rfl 2 (.slice (some ⟨b0, o1, none⟩) (n1 - 1) (cap' - 1)) (cs' := #[.int .u64 ((F + j : Nat) : Int), .int .i64 (M : Int), .slice (some ⟨b0, o1, none⟩) (n1 - 1) (cap' - 1)]) rfl (L' := [(r, 43, #[.int .u64 ((F + j : Nat) : Int), .int .i64 (M : Int), .slice (some ⟨b0, o1, none⟩) (n1 - 1) (cap' - 1)])]) rfl (Nat.le_of_ble_eq_true rfl) rfl rfl
        have c1 := K1.ldO ty_u64 0 rfl 0 (v := .int .u64 ((F + j : Nat) : Int)) rfl
        obtain ⟨w2, s2, K2, q2⟩ := K1.stO ty_u64 0 rfl 0 (.int .u64 ((F + (j + 1) : Nat) : Int)) (cs' := #[.int .u64 ((F + (j + 1) : Nat) : Int), .int .i64 (M : Int), .slice (some ⟨b0, o1, none⟩) (n1 - 1) (cap' - 1)]) rfl (L' := [(r, 43, #[.int .u64 ((F + (j + 1) : Nat) : Int), .int .i64 (M : Int), .slice (some ⟨b0, o1, none⟩) (n1 - 1) (cap' - 1)])]) rfl (Nat.le_of_ble_eq_true rfl) rfl rfl
        have HK2 := Lib.hid (K2.get 0 rfl)
        have HG2 := Lib.hid ((HG.out.trans q1).trans q2)
        have HP2 := Lib.hid ((HPN.out.turn hr q1).turn hr q2)
        have HLE := Lib.hid (show n1 - 1 ≤ cap' - 1 by have := HC.out; omega)
        have HJ := Lib.hid (show j + 1 ≤ l.length ∧ j + 1 ≤ x - F ∧ n1 - 1 = (l.drop (j + 1)).length by rw [List.length_drop]; omega)
        have HM2 := Lib.hid hn1
        generalize F + j = y at *
        generalize hy2 : F + (j + 1) = y2 at *
        have HY := Lib.hid hy2
        generalize n1 - 1 = n2 at *
        generalize cap' - 1 = c3 at *
        clear K1 K2 q1 q2 HAA HA HP HN HC HG hdl hn1 hy2 ho1 hj hjx h1 h2 i1n
        go_wp2
        go_roundw
        case rel => exact ⟨j + 1, c3, some ⟨b0, o1, none⟩, HJ.out.1, HJ.out.2.1, by show RHc _ _ _ _ _ _ _; rw [HY.out, ← HJ.out.2.2]; exact HK2.out, HP2.out, (by show _ = none → _; intro e; cases e), (by show _ ≤ _; rw [← HJ.out.2.2]; exact HLE.out), HG2.out⟩
        case measure => rw [lenAt_of HK2.out, HM.out, HJ.out.2.2, List.length_drop]; have := HJ.out.1; have := HM2.out; omega
      · have i2 : ¬ ((F + j : Nat) : Int) < (x : Int) := by omega
        obtain rfl : j = x - F := by omega
        have HRX : Hid (RH wr bs r (F + (x - F)) M (l.drop (x - F))) := ⟨lo', cap', by rw [List.length_drop]; exact HA.out, HP.out, HN.out, by rw [List.length_drop]; exact HC.out⟩
        clear e3
        go_wp2
        go_end0
        exact ⟨rfl, HRX.out, HG.out⟩
    · obtain rfl : j = l.length := by omega
      have i1 : ¬ (0 : Int) < ((l.length - l.length : Nat) : Int) := by omega
      have hdd : l.drop (x - F) = l.drop l.length := by rw [List.drop_of_length_le (by omega), List.drop_length]
      have HRX : Hid (RH wr bs r (F + l.length) M (l.drop (x - F))) := ⟨lo', cap', by rw [hdd, List.length_drop]; exact HA.out, by rw [hdd]; exact HP.out, HN.out, by rw [hdd, List.length_drop]; exact HC.out⟩
      clear hdd
      go_wp2
      go_end0
      exact ⟨rfl, HRX.out, HG.out⟩
end Go.Proofs.YtgmbdadkahcpcaaDoor
