/- Pack: a list divided into its runs; the program's: one contract each. Conditions: lists of at most 2^30 inputs. -/
import Derived.Test.YtkhecaohbmlnlaaIs
import Derived.Test.YtkhecaohbmlnlaaIv
import Derived.Deep.LoopGhost
import Derived.WalkMore
namespace Go.Proofs.Ytkhecaohbmlnlaa
open Go.RowKit
set_option linter.unusedVariables false

theorem putRun_c (g B n : Nat) (a : UInt8) (bs : List UInt8) (w : World) (h : Wq w g B bs) (hl : bs.length ≤ 1099511627700) (hn : n < 9223372036854775808) :
    Calls Try.prog 46 #[.pointer (some ⟨g, 0, none⟩), .int .i64 n, .int .u8 a.toNat] w fun E w' => E = .returned (.tuple #[]) ∧ WqTo w g B (bs ++ (vr n ++ [a])) w' := by
  have hu := u64_id (n : Int) (by omega) (by omega)
  have ha := a.toNat_lt
  have hvl := (vr_len n).2
  have HE : Hid (bs ++ vr n ++ le 1 a.toNat = bs ++ (vr n ++ [a])) := by
    show _ = _
    rw [le_one ha, ofNat_toNat, List.append_assoc]
  have HN := Lib.hid hn
  clear hn
  go_enter Try.func46, Try.ntmps46
  go_wp2_with fail
  refine (wrVarq g B n bs _ h hl (by have := HN.out; omega)).mono ?_
  rintro E w1 ⟨rfl, hw1⟩
  go_wp2_with fail
  refine (wrU8q g B a.toNat _ _ hw1.1 (by rw [List.length_append]; omega) ha).mono ?_
  rintro E w2 ⟨rfl, hw2⟩
  have HW := Lib.hid (wqTo_trans hw1 hw2)
  clear hw1 hw2
  go_wp2
  go_end0
  exact ⟨rfl, by rw [← HE.out]; exact HW.out⟩

/-- A list of inputs can be read at this address, from blocks below B. -/
def InsU (w : World) (B : Nat) (ao : Option Addr) (l : List UInt8) : Prop :=
  ∀ k (h : k < l.length), ∃ b o, ao = some ⟨b, o, none⟩ ∧ b < B ∧ w.cell? ⟨b, o + k, none⟩ = some (.int .u8 ((l[k]'h).toNat : Int))
theorem insU_of {w : World} {ao : Option Addr} {l : List UInt8} (h : Ins w ao l) : InsU w w.heap.size ao l := fun k hk => by
  obtain ⟨b, o, e, hc⟩ := h k hk
  exact ⟨b, o, e, World.block_lt_of_cell? w _ hc, hc⟩
theorem insU_kept {w w' : World} {B B' : Nat} {ao : Option Addr} {l : List UInt8} (h : InsU w B ao l) (hb : Below B w w') (hB : B ≤ B') : InsU w' B' ao l := fun k hk => by
  obtain ⟨b, o, e, hlt, hc⟩ := h k hk
  exact ⟨b, o, e, by omega, (hb.cell (p := ⟨b, o + k, none⟩) hlt).trans hc⟩
theorem insU_cut {w : World} {B b o n : Nat} {l : List UInt8} (h : InsU w B (some ⟨b, o, none⟩) l) : InsU w B (some ⟨b, o + n, none⟩) (l.drop n) := fun k hk => by
  have hk' : n + k < l.length := by simp at hk; omega
  obtain ⟨b', o', e, hlt, hc⟩ := h (n + k) hk'
  injection e with e
  injection e with e1 e2
  subst e1 e2
  refine ⟨b, o + n, rfl, hlt, ?_⟩
  rw [List.getElem_drop, Nat.add_assoc]
  exact hc
/-- What putRuns has come to: so many runs are written, v is what is left of the list. -/
def RunsAt (w : World) (g B : Nat) (l bs : List UInt8) (n : Nat) (s4 s5 : Value) (wr : World) : Prop :=
  ∃ (done : List (Nat × UInt8)) (rest : List UInt8) (ao : Option Addr) (cap : Nat), s4 = .int .u64 done.length ∧ s5 = .slice ao rest.length cap ∧ rest.length = n ∧ rest.length ≤ cap ∧ cap ≤ maxLen ∧
    InsU w g ao rest ∧ gp none l = done ++ gp none rest ∧ WqTo w g B (bs ++ er done) wr

set_option maxHeartbeats 2000000 in
set_option maxRecDepth 20000 in
theorem putRuns_c (g B : Nat) (ao : Option Addr) (cap : Nat) (l bs : List UInt8) (w : World) (h : Wq w g B bs) (hi : InsU w g ao l) (hl : l.length ≤ 1073741824) (hc : l.length ≤ cap) (hm : cap ≤ maxLen) (hbl : bs.length ≤ 1073741824) :
    Calls Try.prog 33 #[.pointer (some ⟨g, 0, none⟩), .slice ao l.length cap] w fun E w' => E = .returned (.int .u64 (gp none l).length) ∧ WqTo w g B (bs ++ er (gp none l)) w' := by
  have HI := Lib.hid hi
  have HW := Lib.hid h
  have HLL := Lib.hid (gp_len l none)
  clear hi h
  go_enter Try.func33, Try.ntmps33
  go_wp2
  go_step3
  go_wp2
  go_step3
  go_wp2
  go_loopg [4, 5] (l.length) (fun n s4 s5 wr => RunsAt w g B l bs n s4 s5 wr)
  case atStart => exact ⟨[], l, ao, cap, rfl, rfl, rfl, hc, hm, HI.out, by simp, by simpa [er] using wq_to HW.out⟩
  case round =>
    obtain ⟨done, rest, ap, cp, rfl, rfl, hn, hcp, hcm, hins, hgp, hto⟩ := hrel
    subst hn
    have hdl : Hid (done.length + (gp none rest).length = (gp none l).length) := by show _ = _; rw [hgp, List.length_append]
    have HGP := Lib.hid hgp
    have HTO := Lib.hid hto
    have hbw : Below g w wr := below_of_bes hto.2 (by have := hto.1.1; omega)
    have HBW := Lib.hid hbw
    have hIn := insU_kept hins hbw (Nat.le_refl _)
    have HIN := Lib.hid hIn
    have HI0 := Lib.hid hins
    clear hgp hto hins hbw
    have hbl2 : (bs ++ er done).length ≤ 1099511627700 := by
      have := er_len done
      have := HLL.out
      have := hdl.out
      rw [List.length_append]; omega
    have HBL := Lib.hid hbl2
    clear hbl2
    cases rest with
    | nil =>
      go_wp2
      try rw [Exit.noGoto_ret]
      go_ret
      have hg := HGP.out
      rw [show gp none ([] : List UInt8) = [] from rfl, List.append_nil] at hg
      rw [hg]
      exact ⟨rfl, HTO.out⟩
    | cons a r =>
      obtain ⟨b, o, rfl, hbg, hc0⟩ := hIn 0 (by simp)
      simp only [Nat.add_zero, List.getElem_cons_zero] at hc0
      have hlen : Hid ((a :: r).length = r.length + 1) := by show _ = _; simp
      have hpos : 0 < (a :: r).length := by simp
      have HC := Lib.hid (gp_cons a r)
      have hrl : (a :: r).length ≤ 9223372036854775807 := by simp only [maxLen] at hcm; omega
      have h0 : (a :: r)[0]? = some a := rfl
      have HF := Lib.hid h0
      clear h0 hIn
      generalize hR : a :: r = R at *
      clear hR
      go_wp2
      go_loopg [5, 16] R.length (fun n s5 s16 wy => ∃ j : Nat, j + n = R.length ∧ s16 = .int .i64 j ∧ s5 = .slice (some ⟨b, o, none⟩) R.length cp ∧ Hid (∀ k, k < j → R[k]? = some a) ∧ wr = wy)
      case atStart => exact ⟨0, by omega, rfl, rfl, fun k hk => by omega, rfl⟩
      case round =>
        obtain ⟨j, hj, rfl, rfl, HJ, rfl⟩ := hrel
        have HCM := Lib.hid hcm
        clear hcm
        cases gk with
        | zero =>
          have hx : j = R.length := by omega
          subst hx
          have HK : Hid (cnt a R = R.length) := cnt_unique a R R.length (Nat.le_refl _) HJ.out (by simp)
          go_wp2_with fail
          refine (putRun_c g B R.length a (bs ++ er done) _ HTO.out.1 HBL.out (by omega)).mono ?_
          rintro E w1 ⟨rfl, hw1⟩
          have HW1 := Lib.hid (wqTo_trans HTO.out hw1)
          clear hw1
          have hsum : IntKind.u64.wrap ((done.length : Int) + 1) = ((done ++ [(R.length, a)]).length : Int) := by
            have := hdl.out
            have := HLL.out
            rw [u64_id _ (by omega) (by omega)]; simp
          go_wp2
          go_roundg 0
          case measure => omega
          case rel =>
            refine ⟨done ++ [(R.length, a)], [], none, 0, ?_, by simp, rfl, by simp, by simp [maxLen], fun k h => by simp at h, ?_, ?_⟩
            · simp
            · have hc := HC.out
              rw [HK.out, List.drop_length] at hc
              rw [HGP.out, hc]; simp [gp]
            · have := HW1.out
              rwa [List.append_assoc, show er done ++ (vr R.length ++ [a]) = er (done ++ [(R.length, a)]) from by rw [er_append]; simp [er]] at this
        | succ n =>
          have hjlt : j < R.length := by omega
          obtain ⟨b', o', e', hb', hcj⟩ := HIN.out j hjlt
          injection e' with e'
          injection e' with e1 e2
          subst e1 e2
          by_cases hx : R[j]'hjlt = a
          · rw [hx] at hcj
            have HX := Lib.hid hx
            clear hx
            go_wp2
            go_roundg n
            case measure => omega
            case rel =>
              refine ⟨j + 1, by omega, by go_num, rfl, fun k hk => ?_, rfl⟩
              by_cases hkj : k < j
              · exact HJ.out k hkj
              · have : k = j := by omega
                subst this
                rw [List.getElem?_eq_getElem hjlt, HX.out]
          · have HK : Hid (cnt a R = j) := cnt_unique a R j (by omega) HJ.out (by rw [List.getElem?_eq_getElem hjlt]; simpa using hx)
            have hj0 : 0 < j := by
              rcases Nat.eq_zero_or_pos j with e | e
              · subst e
                exact absurd (by have := HF.out; rw [List.getElem?_eq_getElem hjlt] at this; simpa using this) hx
              · exact e
            have hne : (((R[j]'hjlt).toNat : Int) == (a.toNat : Int)) = false := by
              rw [beq_eq_false_iff_ne]
              intro e
              exact hx (UInt8.toNat_inj.1 (by omega))
            clear hx
            generalize (R[j]'hjlt).toNat = v at *
            go_wp2_with fail
            refine (putRun_c g B j a (bs ++ er done) _ HTO.out.1 HBL.out (by omega)).mono ?_
            rintro E w1 ⟨rfl, hw1⟩
            have HW1 := Lib.hid (wqTo_trans HTO.out hw1)
            have hb1 := below_of_bes hw1.2 (by have := HTO.out.1.1; omega)
            have HB1 := Lib.hid hb1
            clear hw1 hb1
            go_wp2
            have hsum : IntKind.u64.wrap ((done.length : Int) + 1) = ((done ++ [(j, a)]).length : Int) := by
              have := hdl.out
              have := HLL.out
              rw [u64_id _ (by omega) (by omega)]; simp
            go_roundg (R.length - j)
            case measure => omega
            case rel =>
              refine ⟨done ++ [(j, a)], R.drop j, some ⟨b, o + j, none⟩, cp - j, by rw [hsum], by rw [List.length_drop], List.length_drop, by rw [List.length_drop]; omega, by have := HCM.out; omega, insU_cut HI0.out, ?_, ?_⟩
              · have hc := HC.out
                rw [HK.out] at hc
                rw [HGP.out, hc]; simp
              · have := HW1.out
                rwa [List.append_assoc, show er done ++ (vr j ++ [a]) = er (done ++ [(j, a)]) from by rw [er_append]; simp [er]] at this

/-- Two writers, one behind the other. -/
theorem below_two (w : World) : Below w.heap.size w ((w.alloc (.cells #[.slice none 0 0] 50)).alloc (.cells #[.slice none 0 0] 50)) :=
  ((Below.refl _ w).alloc (Nat.le_refl _) _).alloc (by simp) _
theorem cells_two (w : World) : Cells ((w.alloc (.cells #[.slice none 0 0] 50)).alloc (.cells #[.slice none 0 0] 50)) w.heap.size 50 #[.slice none 0 0] :=
  (Cells.made w _ _).alloc _
theorem wq_two (w : World) : Wq ((w.alloc (.cells #[.slice none 0 0] 50)).alloc (.cells #[.slice none 0 0] 50)) (w.heap.size + 1) (w.heap.size + 1 + 1) [] := by
  refine ⟨by omega, by simp, none, 0, ?_, World.ownsRow_nil _ _ _ _⟩
  have := Cells.made (w.alloc (.cells #[.slice none 0 0] 50)) 50 #[.slice none 0 0]
  simpa using this
theorem wq_nil {w : World} {g : Nat} (h : Cells w g 50 #[.slice none 0 0]) : Wq w g w.heap.size [] := ⟨h.lt, Nat.le_refl _, none, 0, h, World.ownsRow_nil _ _ _ _⟩
theorem wq_kept {w w' : World} {g B r : Nat} {bs : List UInt8} (h : Wq w g B bs) (k : w.grownBy w' (some r)) (hr : r < g) : Wq w' g B bs := by
  obtain ⟨h1, h2, ao, cap, hc, ho⟩ := h
  refine ⟨h1, Nat.le_trans h2 k.size, ao, cap, hc.grown k (by simp; omega), ho.kept k ?_⟩
  rcases ho.2 with ⟨he, _⟩ | ⟨g', cap', cur, he, hg, _⟩
  · rw [he]; exact .inl rfl
  · rw [he]; exact .inr (by simp [Value.ownBlock]; omega)
set_option maxHeartbeats 2000000 in
set_option maxRecDepth 20000 in
theorem pack_c (ao : Option Addr) (cap : Nat) (l : List UInt8) (w : World) (h : Ins w ao l) (hl : l.length ≤ 1073741824) (hc : l.length ≤ cap) (hm : cap ≤ maxLen) :
    Calls Try.prog 19 #[.slice ao l.length cap] w fun E w' => E = .returned (.string (str (pk l))) ∧ Below w.heap.size w w' := by
  have H := Lib.hid h
  have HU := Lib.hid (insU_of h)
  have HM := Lib.hid hm
  clear h hm
  go_enter Try.func19, Try.ntmps19
  go_wp2
  go_loop [9] (fun i => ∃ k : Nat, k ≤ l.length ∧ i = .int .i64 k ∧ ok64 (l.take k)) (fun i => l.length - (intOf i).toNat)
  case atStart => exact ⟨0, Nat.zero_le _, rfl, by simpa using ok_nil⟩
  case round =>
    obtain ⟨k, hk, rfl, hok⟩ := hrel
    have HOK := Lib.hid hok
    clear hok
    by_cases hlt : k < l.length
    · obtain ⟨b, o, rfl, hcell⟩ := H.out k hlt
      have HT := Lib.hid (List.take_succ_eq_append_getElem hlt)
      by_cases h64 : (l[k]'hlt).toNat < 64
      · have hd : decide ((l[k]'hlt).toNat < 64) = true := by simpa using h64
        have HO2 : Hid (ok64 (l.take (k + 1))) := by
          show ok64 _
          rw [HT.out]
          exact ok_append.2 ⟨HOK.out, by intro x hx; simp at hx; subst hx; exact h64⟩
        have hlc := legal_c (l[k]'hlt).toNat w
        rw [hd] at hlc
        clear hd h64
        generalize (l[k]'hlt).toNat = v at *
        go_wp2_with fail
        refine hlc.mono ?_
        rintro E w1 ⟨rfl, rfl⟩
        go_wp2
        go_round
        case rel => exact ⟨k + 1, by omega, by go_num, HO2.out⟩
        case measure => simp [intOf]; omega
      · have hd : decide ((l[k]'hlt).toNat < 64) = false := by simpa using h64
        have HO2 : Hid (pk l = []) := by
          show _ = _
          unfold pk
          rw [if_neg (fun h => h64 (h _ (List.getElem_mem hlt)))]
        have hlc := legal_c (l[k]'hlt).toNat w
        rw [hd] at hlc
        clear hd h64
        generalize (l[k]'hlt).toNat = v at *
        go_wp2_with fail
        refine hlc.mono ?_
        rintro E w1 ⟨rfl, rfl⟩
        go_wp2
        go_ret
        exact ⟨by rw [HO2.out]; rfl, Below.refl _ _⟩
    · have hx : k = l.length := by omega
      subst hx
      rw [List.take_length] at HOK
      have HP : Hid (pk l = vr (gp none l).length ++ er (gp none l)) := by show _ = _; unfold pk; rw [if_pos HOK.out]; rfl
      have hq := wq_two w
      have hal := below_two w
      have hiu := insU_kept HU.out hal (Nat.le_succ _)
      have HAL := Lib.hid hal
      have hc1 := cells_two w
      have HC1 := Lib.hid hc1
      clear hal hc1
      go_wp2_with fail
      refine (putRuns_c (w.heap.size + 1) (w.heap.size + 1 + 1) ao cap l [] _ hq hiu hl hc HM.out (by simp)).mono ?_
      rintro E w3 ⟨rfl, hw3⟩
      rw [List.nil_append] at hw3
      have hgl := gp_len l none
      have hb3 : Below (w.heap.size + 1) _ w3 := below_of_bes hw3.2 (by omega)
      have hh := wq_nil (HC1.out.below hb3 (by omega))
      have HB3 := Lib.hid (HAL.out.trans (hb3.mono (by omega)))
      have HW3 := Lib.hid hw3.1
      clear hw3 hb3 hq hiu HAL HC1
      go_wp2_with fail
      refine (wrVarq w.heap.size w3.heap.size (gp none l).length [] _ hh (by simp) (by omega)).mono ?_
      rintro E w4 ⟨rfl, hw4⟩
      rw [List.nil_append] at hw4
      have hg4 := grown_of_bes hw4.2 (Nat.le_refl _)
      have hr4 := wq_kept HW3.out hg4 (by omega)
      have HB4 := Lib.hid (HB3.out.trans (below_of_bes hw4.2 (by have := HB3.out.size; omega)))
      have hh4 := hw4.1
      clear hw4 hg4 hh
      go_wp2_with fail
      refine (wqBytes w.heap.size w3.heap.size _ _ hh4).mono ?_
      rintro E w5 ⟨rfl, rfl⟩
      go_wp2_with fail
      refine (wqBytes (w.heap.size + 1) (w.heap.size + 1 + 1) _ _ hr4).mono ?_
      rintro E w5 ⟨rfl, rfl⟩
      have hs1 := str_size (vr (gp none l).length)
      have hs2 := str_size (er (gp none l))
      have hs3 := (vr_len (gp none l).length).2
      have hs4 := er_len (gp none l)
      have HAP := Lib.hid (str_append (vr (gp none l).length) (er (gp none l)))
      clear hh4 hr4
      go_wp2
      go_ret
      exact ⟨by rw [HP.out, ← HAP.out]; rfl, HB4.out⟩
end Go.Proofs.Ytkhecaohbmlnlaa
