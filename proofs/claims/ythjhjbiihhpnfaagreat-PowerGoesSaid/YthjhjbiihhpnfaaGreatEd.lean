/- The document's disk: append of files to files; drop, put; Same. -/
import Derived.Test.YthjhjbiihhpnfaaGreatEc
import Derived.Test.YthjhjbiihhpnfaaGreatDp
import Derived.Maps.AppendAt
namespace Go.Proofs.YthjhjbiihhpnfaaGreat
open Go.RowKit Go.Shelf Go.Deep
set_option linter.unusedVariables false
set_option linter.unusedSimpArgs false
set_option maxRecDepth 100000

theorem info_fl : (Tryz.prog.info? 96).map (fun i => (i.zero, i.size, i.bytes)) = some (some (.agg #[.string ⟨#[]⟩, .string ⟨#[]⟩, .int .i64 0]), 3, 40) := by kernel_rfl
/-- Files that can be read in a slice. -/
def SrcF (w : World) (so : Option Addr) (sc : Nat) (D : List Ent) : Prop :=
  match so with
  | none => D = [] ∧ sc = 0
  | some ad => ∀ j u, (fcs D)[j]? = some u → w.cell? (ad.add j) = some u
theorem fcs_one : ∀ E : List Ent, ∀ u ∈ fcs E, u.oneCell' = true
  | [], u, h => by cases h
  | e :: r, u, h => by
    rcases List.mem_append.1 h with h | h
    · simp [fc] at h
      rcases h with rfl | rfl | rfl <;> rfl
    · exact fcs_one r u h
theorem FRow.nil (B : Nat) (w : World) : FRow B w (.slice none 0 0) [] := World.ownsRow_nil _ _ _ _
/-- append(v, x...): where it runs, what it leaves. -/
theorem app_fs {w : World} {base sc m N : Nat} {v : Value} {A D : List Ent} {so : Option Addr} (hown : FRow base w v A) (hm : D.length = m) (hN : A.length + m = N) (hD : SrcF w so sc D) (hl : N ≤ 1000) (hb : base ≤ w.heap.size) (ty : TypeId) :
    ∃ ao cap w', (Builtin.append_ #[68, 68] ty #[v, .slice so m sc]).run Tryz.prog w = .ok (.slice ao N cap) w' ∧ FRow base w' (.slice ao N cap) (A ++ D) ∧ w.grownBy w' v.ownBlock := by
  obtain ⟨i0, hi0, hz0, hz1, hz2⟩ := info_parts info_fl
  have hlen : (A ++ D).length = N := by rw [List.length_append, hm, hN]
  cases so with
  | none =>
    obtain ⟨rfl, rfl⟩ := hD
    obtain rfl : m = 0 := hm.symm
    obtain ⟨ao, cap, rfl⟩ := hown.form
    have hr := run_append_owned_none (P := Tryz.prog) w base 68 ty 96 i0 3 Tryz.underlying68 hi0 _ _ _ hown
    obtain rfl : A.length = N := hN
    exact ⟨ao, cap, w, hr, by rw [List.append_nil]; exact hown, grown_refl _ _⟩
  | some ad =>
    obtain ⟨v', w', h1, h2, h3, _⟩ := Go.run_append_own_at (P := Tryz.prog) w base 68 ty 96 i0 (.agg #[.string ⟨#[]⟩, .string ⟨#[]⟩, .int .i64 0]) 3 40 Tryz.underlying68 hi0 hz0 hz1 hz2 rfl (by decide) v A.length (fcs A) hown ad m sc (fcs D)
      (by rw [fcs_len, hm]) hD (fcs_one D) (by rw [hN]; simp only [maxLen]; omega) (by rw [hN]; omega) hb
    rw [← fcs_app, hN] at h2
    have h4 : FRow base w' v' (A ++ D) := by unfold FRow; rw [hlen]; exact h2
    obtain ⟨ao, cap, rfl⟩ := h4.form
    rw [hlen] at h1 h4
    exact ⟨ao, cap, w', h1, h4, h3⟩
section
variable {S : Nat → Prop} {w w' : World} {g q cap k : Nat} {ao : Option Addr} {E : List Ent}
theorem fcs_drop : ∀ (E : List Ent) (k j : Nat), (fcs (E.drop k))[j]? = (fcs E)[k * 3 + j]?
  | E, 0, j => by simp
  | [], k + 1, j => by simp [fcs]
  | e :: r, k + 1, j => by
    simp only [List.drop_succ_cons, fcs]
    rw [fcs_drop r k j, List.getElem?_append_right (by simp [fc]; omega)]
    congr 1
    simp [fc]; omega
theorem fcs_take : ∀ (E : List Ent) (k j : Nat) (u : Value), (fcs (E.take k))[j]? = some u → (fcs E)[j]? = some u
  | E, 0, j, u, h => by simp [fcs] at h
  | [], k + 1, j, u, h => by simp [fcs] at h
  | e :: r, k + 1, j, u, h => by
    simp only [List.take_succ_cons, fcs] at h ⊢
    by_cases hj : j < (fc e).length
    · rw [List.getElem?_append_left hj] at h ⊢; exact h
    · rw [List.getElem?_append_right (by omega)] at h ⊢
      exact fcs_take r k _ u h
/-- The head and the tail of a row, as sources. -/
theorem FRow.head {B gr : Nat} (h : FRow B w (.slice (some ⟨gr, 0, none⟩) E.length cap) E) (c k : Nat) : SrcF w (some ⟨gr, 0, none⟩) c (E.take k) := fun j u hu => World.ownsRow.cells (g := gr) h rfl j u (fcs_take E k j u hu)
theorem FRow.tail {B gr : Nat} (h : FRow B w (.slice (some ⟨gr, 0, none⟩) E.length cap) E) (c k : Nat) (hc : E.length ≤ cap) : SrcF w (if cap = k then some ⟨gr, 0, none⟩ else some ⟨gr, k * 3, none⟩) c (E.drop k) := by
  by_cases hk : cap = k
  · rw [if_pos hk, List.drop_eq_nil_of_le (by omega)]
    intro j u hu
    simp [fcs] at hu
  · rw [if_neg hk]
    intro j u hu
    rw [fcs_drop] at hu
    have := World.ownsRow.cells (g := gr) h rfl (k * 3 + j) u hu
    rw [Go.WideShapes.add_plain] at this ⊢
    rw [Nat.zero_add] at this
    exact this
theorem SrcF.to {so : Option Addr} {sc : Nat} {D : List Ent} (h : SrcF w so sc D) (hb : Below w.heap.size w w') : SrcF w' so sc D := by
  cases so with
  | none => exact h
  | some ad =>
    intro j u hu
    have h1 := h j u hu
    have hlt := World.block_lt_of_cell? w _ h1
    rw [hb.cell (p := ad.add j) hlt]
    exact h1
/-- The disk gets another row. -/
theorem RkC.relay {w2 : World} {N : Nat} {ao2 : Option Addr} {cap2 : Nat} {E2 : List Ent} (h : RkC S w g q ao cap E) (hS : ∀ x, w.heap.size ≤ x → S x) (hr : FRow w.heap.size w2 (.slice ao2 N cap2) E2) (hN : E2.length = N) (hb : Below w.heap.size w w2) (hG : Good q E2) :
    RkC S (w2.setCell ⟨g, 1, none⟩ (.slice ao2 N cap2)) g q ao2 cap2 E2 ∧ Tu S w (w2.setCell ⟨g, 1, none⟩ (.slice ao2 N cap2)) := by
  subst hN
  have hlt := h.blk.lt
  have hc := (h.blk.below hb hlt).set 1 (.slice ao2 E2.length cap2)
  have ht := Tu.grown (grown_set w2 g 1 (.slice ao2 E2.length cap2))
  have hrow := hr.tu ht (fun x hx e => by
    have := (hr.lt x hx).1
    have e2 : x = g := by simpa using e
    omega)
  exact ⟨⟨hc, ownsRow_base_a hrow (Nat.zero_le _), h.sg, fun x hx => hS x (hr.lt x hx).1, hG⟩, (Tu.new hb).trans ht (fun x _ e => by
    have e2 : x = g := by simpa using e
    rw [e2]; exact h.sg)⟩
theorem below_own {w1 w2 : World} {B : Nat} {v : Value} {A : List Ent} (hb : Below B w w1) (hr : FRow B w1 v A) (hg : w1.grownBy w2 v.ownBlock) (hB : B ≤ w1.heap.size) : Below B w w2 :=
  hb.trans ((Tu.grown hg).below (fun x hx e => by have := (hr.lt x e.symm).1; omega) hB)
set_option maxHeartbeats 1000000 in
theorem drop_c (h : RkC S w g q ao cap E) (hS : ∀ x, w.heap.size ≤ x → S x) (hk : k < E.length) (hG : Good q (E.take k ++ E.drop (k + 1))) :
    Calls Tryz.prog 77 #[.pointer (some ⟨g, 0, none⟩), .int .i64 (k : Int)] w fun R w' => R = .returned (.tuple #[]) ∧ RkS S w' (.pointer (some ⟨g, 0, none⟩)) q (E.take k ++ E.drop (k + 1)) ∧ Tu S w w' := by
  have hel := h.good.len
  obtain ⟨gr, rfl, _⟩ := h.row.at hk
  have HK := Lib.hid h
  have c1 := h.c1
  have hcap : E.length ≤ cap := by
    rcases h.row.2 with ⟨he, _⟩ | ⟨_, _, _, he, _, _, hc, _⟩
    · cases he
    · injection he with e1 e2 e3; subst e3; exact hc
  obtain ⟨ao1, cap1, w1, hr1, hf1, hg1⟩ := app_fs (FRow.nil w.heap.size w) (show (E.take k).length = k by rw [List.length_take]; omega) (show ([] : List Ent).length + k = k by simp) (h.row.head cap k) (by omega) (Nat.le_refl _) 68
  rw [List.nil_append] at hf1
  have hb1 := (Tu.fresh (S := fun _ => False) hg1).below (fun _ _ h => h) (Nat.le_refl _)
  have h1 := h.new hb1
  have c2 := h1.c1
  obtain ⟨ao2, cap2, w2, hr2, hf2, hg2⟩ := app_fs hf1 (show (E.drop (k + 1)).length = E.length - (k + 1) by rw [List.length_drop]) (show (E.take k).length + (E.length - (k + 1)) = E.length - 1 by rw [List.length_take]; omega) ((h.row.tail (cap - (k + 1)) (k + 1) hcap).to hb1) (by omega) hb1.size 68
  have hb2 := below_own hb1 hf1 hg2 hb1.size
  have hfz := (h.blk.below hb2 h.blk.lt).frozen 1
  have HREL := Lib.hid (h.relay hS hf2 (by rw [List.length_append, List.length_take, List.length_drop]; omega) hb2 hG)
  have HB2 := Lib.hid hb2
  have HR1 := Lib.hid hr1
  have HR2 := Lib.hid hr2
  have HKG := h.blk.lt
  have c3 : w2.cell? ⟨g, 1, none⟩ = some (.slice (some ⟨gr, 0, none⟩) E.length cap) := by rw [(h.blk.below hb2 h.blk.lt).cell]; rfl
  have hk1 : (k : Int) + 1 ≤ (E.length : Int) := by omega
  clear hr1 hr2 hf1 hf2 hg1 hg2 hb1 hb2 h1 h
  go_enter Tryz.func77, Tryz.ntmps77
  go_upto_region 2 with (at_builtin; refine wpList_app rfl _ _ _ _ rfl _ _ _ rfl rfl HR1.out ?_)
  go_wp2_with (at_builtin; refine wpList_app rfl _ _ _ _ rfl _ _ _ rfl rfl HR2.out ?_)
  all_goals (
    go_end0
    exact ⟨rfl, ⟨_, _, _, rfl, HREL.out.1⟩, HREL.out.2⟩)
theorem bl_eq (a b : List UInt8) : Op.bytesLess (str a).toList (str b).toList = decide (a < b) := by rw [str_tl2, str_tl2, bytesLess_eq]
theorem bl_yes {a b : List UInt8} (h : a < b) : Op.bytesLess (str a).toList (str b).toList = true := by rw [bl_eq]; exact decide_eq_true h
theorem bl_no {a b : List UInt8} (h : ¬ a < b) : Op.bytesLess (str a).toList (str b).toList = false := by rw [bl_eq]; exact decide_eq_false h
theorem FRow.cases {B : Nat} {w : World} {ao : Option Addr} {cap : Nat} {E : List Ent} (h : FRow B w (.slice ao E.length cap) E) : (ao = none ∧ cap = 0 ∧ E = []) ∨ ∃ gr, ao = some ⟨gr, 0, none⟩ := by
  rcases h.2 with ⟨he, h0⟩ | ⟨g, c, cur, he, _⟩
  · injection he with e1 e2 e3; exact .inl ⟨e1, e3, List.eq_nil_of_length_eq_zero h0⟩
  · injection he with e1 e2 e3; exact .inr ⟨g, e1⟩
theorem ins_cut {E : List Ent} (hs : Srt Ent.nm E) {f : Ent} (hn : ∀ y ∈ E, y.nm ≠ f.nm) {k : Nat} (hk : k ≤ E.length) (h1 : ∀ j (hj : j < E.length), j < k → (E[j]'hj).nm < f.nm) (h2 : ∀ hj : k < E.length, ¬ (E[k]'hj).nm < f.nm) : insK Ent.nm f E = E.take k ++ f :: E.drop k := by
  conv => lhs; rw [← List.take_append_drop k E]
  refine insK_at f _ _ (fun y hy => ?_) (fun y hy => ?_)
  · obtain ⟨j, hj, rfl⟩ := List.getElem_of_mem hy
    rw [List.getElem_take]
    rw [List.length_take] at hj
    exact h1 j (by omega) (by omega)
  · obtain ⟨j, hj, rfl⟩ := List.getElem_of_mem hy
    rw [List.getElem_drop]
    rw [List.length_drop] at hj
    have hk2 : k < E.length := by omega
    have h3 := (nm_total (hn _ (List.getElem_mem hk2))).resolve_left (h2 hk2)
    by_cases h0 : j = 0
    · subst h0; exact h3
    · exact nm_trans h3 (List.pairwise_iff_getElem.1 hs k (k + j) hk2 (by omega) (by omega))
set_option maxHeartbeats 1000000 in
theorem put2_c (f : Ent) (h : RkC S w g q ao cap E) (hS : ∀ x, w.heap.size ≤ x → S x) (hn : ∀ y ∈ E, y.nm ≠ f.nm) (hG : Good q (insK Ent.nm f E)) :
    Calls Tryz.prog 76 #[.pointer (some ⟨g, 0, none⟩), .agg #[.string (str f.nm), .string (str f.bs), .int .i64 (f.su : Int)]] w fun R w' => R = .returned (.tuple #[]) ∧ RkS S w' (.pointer (some ⟨g, 0, none⟩)) q (insK Ent.nm f E) ∧ Tu S w w' := by
  have hel := h.good.len
  have HC := Lib.hid (fun k => ins_cut h.good.srt hn (k := k))
  have hal := below_alloc w (.cells #[.string (str f.nm), .string (str f.bs), .int .i64 (f.su : Int)] 96)
  have HAL := Lib.hid hal
  have HCB := Lib.hid (Cells.made w 96 #[.string (str f.nm), .string (str f.bs), .int .i64 (f.su : Int)])
  have HK := Lib.hid (h.new hal)
  have HK0 := Lib.hid h
  have HG := Lib.hid hG
  clear h hal hn hG
  go_enter Tryz.func76, Tryz.ntmps76
  go_wp2
  generalize w.alloc (.cells #[.string (str f.nm), .string (str f.bs), .int .i64 (f.su : Int)] 96) = wb at *
  go_loopw [4] (fun i wr => ∃ k : Nat, k ≤ E.length ∧ i = .int .i64 k ∧ Hid (∀ j (hj : j < E.length), j < k → (E[j]'hj).nm < f.nm) ∧ Hid (Below wb.heap.size wb wr)) (fun i _ => E.length - (intOf i).toNat)
  case atStart => exact ⟨0, Nat.zero_le _, rfl, fun j _ h => by omega, Below.refl _ _⟩
  case round =>
    obtain ⟨k, hk, rfl, HN, HB⟩ := hrel
    have c1 := (HK.out.new HB.out).c1
    have b0 : wr.cell? ⟨w.heap.size, 0, none⟩ = some (.string (str f.nm)) := by rw [(HCB.out.below HB.out HCB.out.lt).cell]; rfl
    by_cases hlt : k < E.length
    · have i2 : (k : Int) < (E.length : Int) := by omega
      have i3 : decide ((k : Int) < (E.length : Int)) = true := decide_eq_true i2
      obtain ⟨gr, rfl, d0, d1, d2⟩ := (HK.out.new HB.out).row.at hlt
      by_cases hless : (E[k]'hlt).nm < f.nm
      · have e1 := bl_yes hless
        have HM : Hid (∀ j (hj : j < E.length), j < k + 1 → (E[j]'hj).nm < f.nm) := fun j hj hjk => by
          by_cases hjk2 : j < k
          · exact HN.out j hj hjk2
          · obtain rfl : j = k := by omega
            exact hless
        clear hless d1 d2
        generalize (E[k]'hlt).nm = nk at *
        go_upto_region 2 with fail
        go_quiet (fail)
        have HB2 := Lib.hid (HB.out.trans ((below_drewN (Below.refl wr.heap.size wr) nq).mono HB.out.size))
        go_wp2
        go_round
        case rel => exact ⟨k + 1, by omega, by go_num, HM.out, HB2.out⟩
        case measure => simp [intOf]; omega
      · have e1 := bl_no hless
        have HLS := Lib.hid hless
        clear hless d1 d2
        go_upto_region 2 with fail
        go_quiet (fail)
        clear d0 c1 b0 e1
        have HB2 := Lib.hid (HB.out.trans ((below_drewN (Below.refl wr.heap.size wr) nq).mono HB.out.size))
        generalize wr.drewN nq = wx at *
        have hE2 := HC.out k hk (fun j hj hjk => HN.out j hj hjk) (fun _ => HLS.out)
        have HKx := Lib.hid (HK.out.new HB2.out)
        have HBx : Hid (Below w.heap.size w wx) := HAL.out.trans (HB2.out.mono HAL.out.size)
        have hG2 := HG.out
        rw [hE2] at hG2

        have hcap : E.length ≤ cap := by
          rcases HKx.out.row.2 with ⟨he, _⟩ | ⟨_, _, _, he, _, _, hc, _⟩
          · cases he
          · injection he with e1 e2 e3; subst e3; exact hc
        obtain ⟨ao1, cap1, w1, hr1, hf1, hg1⟩ := app_fs (FRow.nil w.heap.size wx) (show (E.take k).length = k by rw [List.length_take]; omega) (show ([] : List Ent).length + k = k by simp) (HKx.out.row.head cap k) (by omega) HBx.out.size 68
        rw [List.nil_append] at hf1
        have hb1 := (Tu.fresh (S := fun _ => False) hg1).below (B := wx.heap.size) (fun _ _ h => h) (Nat.le_refl _)
        have hB1 := HBx.out.trans (hb1.mono HBx.out.size)
        have hba := below_alloc w1 (.cells #[.string (str f.nm), .string (str f.bs), .int .i64 (f.su : Int)] 96)
        have hcm := Cells.made w1 96 #[.string (str f.nm), .string (str f.bs), .int .i64 (f.su : Int)]
        have hsrc : SrcF (w1.alloc (.cells #[.string (str f.nm), .string (str f.bs), .int .i64 (f.su : Int)] 96)) (some ⟨w1.heap.size, 0, none⟩) 1 [f] := fun j u hu => by
          rw [Go.WideShapes.add_plain, Nat.zero_add, hcm.cell]
          simpa [fcs, fc] using hu
        obtain ⟨ao2, cap2, w2, hr2, hf2, hg2⟩ := app_fs (World.ownsRow.alloc hf1 _) (show [f].length = 1 from rfl) (show (E.take k).length + 1 = k + 1 by rw [List.length_take]; omega) hsrc (by omega) (Nat.le_trans hB1.size hba.size) 68
        have hB2 := below_own (hB1.trans (hba.mono hB1.size)) (World.ownsRow.alloc hf1 _) hg2 (Nat.le_trans hB1.size hba.size)
        have hk2 := HK0.out.tu (S' := fun _ => False) (w' := w2) ⟨hB2.os, hB2.tape, hB2.output, hB2.size, fun i hi _ => hB2.block i hi⟩ (fun _ _ _ h => h)
        obtain ⟨ao3, cap3, w3, hr3, hf3, hg3⟩ := app_fs hf2 (show (E.drop k).length = E.length - k by rw [List.length_drop]) (show (E.take k ++ [f]).length + (E.length - k) = E.length + 1 by rw [List.length_append, List.length_take, List.length_singleton]; omega) (hk2.row.tail (cap - k) k hcap) (by omega) hB2.size 68
        have hck : ¬ cap = k := by omega
        rw [if_neg hck] at hr3
        have hB3 := below_own hB2 hf2 hg3 hB2.size
        have hfz := (HK0.out.blk.below hB3 HK0.out.blk.lt).frozen 1
        have hE3 : insK Ent.nm f E = E.take k ++ [f] ++ E.drop k := by rw [hE2]; simp
        rw [← hE3] at hf3
        have HREL := Lib.hid (HK0.out.relay hS hf3 (by simp [insK_len]) hB3 HG.out)
        have c1 := HKx.out.c1
        have c2 := hk2.c1
        have c3 : w3.cell? ⟨g, 1, none⟩ = some (.slice (some ⟨gr, 0, none⟩) E.length cap) := by rw [(HK0.out.blk.below hB3 HK0.out.blk.lt).cell]; rfl
        have hbx := (HCB.out.below HB2.out HCB.out.lt).below hb1 (HCB.out.below HB2.out HCB.out.lt).lt
        have x0 : w1.cell? ⟨w.heap.size, 0, none⟩ = some (.string (str f.nm)) := by rw [hbx.cell]; rfl
        have x1 : w1.cell? ⟨w.heap.size, 1, none⟩ = some (.string (str f.bs)) := by rw [hbx.cell]; rfl
        have x2 : w1.cell? ⟨w.heap.size, 2, none⟩ = some (.int .i64 (f.su : Int)) := by rw [hbx.cell]; rfl
        have HR1 := Lib.hid hr1
        have HR2 := Lib.hid hr2
        have HR3 := Lib.hid hr3
        clear hr1 hr2 hr3 hf1 hf2 hf3 hg1 hg2 hg3 hb1 hB1 hB2 hB3 hba hcm hsrc hbx hk2 hE2 hE3 hG2
        go_upto_region 6 with (at_builtin; refine wpList_app rfl _ _ _ _ rfl _ _ _ rfl rfl HR1.out ?_)
        go_upto_region 7 with (at_builtin; refine wpList_app rfl _ _ _ _ rfl _ _ _ rfl rfl HR2.out ?_)
        go_wp2_with (at_builtin; refine wpList_app rfl _ _ _ _ rfl _ _ _ rfl rfl HR3.out ?_)
        all_goals (
          go_end0
          exact ⟨rfl, ⟨_, _, _, rfl, HREL.out.1⟩, HREL.out.2⟩)
    · have i2 : ¬ (k : Int) < (E.length : Int) := by omega
      have i3 : decide ((k : Int) < (E.length : Int)) = false := decide_eq_false i2
      go_upto_region 2 with fail
      go_quiet (fail)
      clear c1 b0
      have HB2 := Lib.hid (HB.out.trans ((below_drewN (Below.refl wr.heap.size wr) nq).mono HB.out.size))
      generalize wr.drewN nq = wx at *
      rcases HK.out.row.cases with ⟨rfl, rfl, rfl⟩ | ⟨gr, rfl⟩
      · obtain rfl : k = 0 := by simpa using hk
        have hE2 := HC.out 0 (Nat.zero_le _) (fun j hj _ => by cases hj) (fun h => by cases h)
        have HKx := Lib.hid (HK.out.new HB2.out)
        have HBx : Hid (Below w.heap.size w wx) := HAL.out.trans (HB2.out.mono HAL.out.size)
        have hG2 := HG.out
        rw [hE2] at hG2


        obtain ⟨ao1, cap1, w1, hr1, hf1, hg1⟩ := app_fs (FRow.nil w.heap.size wx) (D := []) (m := 0) rfl (N := 0) rfl (so := none) (sc := 0) ⟨rfl, rfl⟩ (by omega) HBx.out.size 68
        rw [List.nil_append] at hf1
        have hb1 := (Tu.fresh (S := fun _ => False) hg1).below (B := wx.heap.size) (fun _ _ h => h) (Nat.le_refl _)
        have hB1 := HBx.out.trans (hb1.mono HBx.out.size)
        have hba := below_alloc w1 (.cells #[.string (str f.nm), .string (str f.bs), .int .i64 (f.su : Int)] 96)
        have hcm := Cells.made w1 96 #[.string (str f.nm), .string (str f.bs), .int .i64 (f.su : Int)]
        have hsrc : SrcF (w1.alloc (.cells #[.string (str f.nm), .string (str f.bs), .int .i64 (f.su : Int)] 96)) (some ⟨w1.heap.size, 0, none⟩) 1 [f] := fun j u hu => by
          rw [Go.WideShapes.add_plain, Nat.zero_add, hcm.cell]
          simpa [fcs, fc] using hu
        obtain ⟨ao2, cap2, w2, hr2, hf2, hg2⟩ := app_fs (World.ownsRow.alloc hf1 _) (show [f].length = 1 from rfl) (N := 1) rfl hsrc (by omega) (Nat.le_trans hB1.size hba.size) 68
        have hB2 := below_own (hB1.trans (hba.mono hB1.size)) (World.ownsRow.alloc hf1 _) hg2 (Nat.le_trans hB1.size hba.size)
        have hk2 := HK0.out.tu (S' := fun _ => False) (w' := w2) ⟨hB2.os, hB2.tape, hB2.output, hB2.size, fun i hi _ => hB2.block i hi⟩ (fun _ _ _ h => h)
        obtain ⟨ao3, cap3, w3, hr3, hf3, hg3⟩ := app_fs hf2 (D := []) (m := 0) rfl (N := 1) rfl (so := none) (sc := 0) ⟨rfl, rfl⟩ (by omega) hB2.size 68

        have hB3 := below_own hB2 hf2 hg3 hB2.size
        have hfz := (HK0.out.blk.below hB3 HK0.out.blk.lt).frozen 1
        have hE3 : insK Ent.nm f [] = [] ++ [f] ++ [] := by rw [hE2]; simp
        rw [← hE3] at hf3
        have HREL := Lib.hid (HK0.out.relay hS hf3 (by simp [insK_len]) hB3 HG.out)
        have c1 := HKx.out.c1
        have c2 := hk2.c1
        have c3 : w3.cell? ⟨g, 1, none⟩ = some (.slice none 0 0) := by rw [(HK0.out.blk.below hB3 HK0.out.blk.lt).cell]; rfl
        have hbx := (HCB.out.below HB2.out HCB.out.lt).below hb1 (HCB.out.below HB2.out HCB.out.lt).lt
        have x0 : w1.cell? ⟨w.heap.size, 0, none⟩ = some (.string (str f.nm)) := by rw [hbx.cell]; rfl
        have x1 : w1.cell? ⟨w.heap.size, 1, none⟩ = some (.string (str f.bs)) := by rw [hbx.cell]; rfl
        have x2 : w1.cell? ⟨w.heap.size, 2, none⟩ = some (.int .i64 (f.su : Int)) := by rw [hbx.cell]; rfl
        have HR1 := Lib.hid hr1
        have HR2 := Lib.hid hr2
        have HR3 := Lib.hid hr3
        clear hr1 hr2 hr3 hf1 hf2 hf3 hg1 hg2 hg3 hb1 hB1 hB2 hB3 hba hcm hsrc hbx hk2 hE2 hE3 hG2
        go_upto_region 6 with (at_builtin; refine wpList_app rfl _ _ _ _ rfl _ _ _ rfl rfl HR1.out ?_)
        go_upto_region 7 with (at_builtin; refine wpList_app rfl _ _ _ _ rfl _ _ _ rfl rfl HR2.out ?_)
        go_wp2_with (at_builtin; refine wpList_app rfl _ _ _ _ rfl _ _ _ rfl rfl HR3.out ?_)
        all_goals (
          go_end0
          exact ⟨rfl, ⟨_, _, _, rfl, HREL.out.1⟩, HREL.out.2⟩)
      · by_cases hck : cap = k
        · skip
          have hE2 := HC.out k hk (fun j hj hjk => HN.out j hj hjk) (fun h => absurd h hlt)
          have HKx := Lib.hid (HK.out.new HB2.out)
          have HBx : Hid (Below w.heap.size w wx) := HAL.out.trans (HB2.out.mono HAL.out.size)
          have hG2 := HG.out
          rw [hE2] at hG2

          have hcap : E.length ≤ cap := by
            rcases HKx.out.row.2 with ⟨he, _⟩ | ⟨_, _, _, he, _, _, hc, _⟩
            · cases he
            · injection he with e1 e2 e3; subst e3; exact hc
          obtain ⟨ao1, cap1, w1, hr1, hf1, hg1⟩ := app_fs (FRow.nil w.heap.size wx) (show (E.take k).length = k by rw [List.length_take]; omega) (show ([] : List Ent).length + k = k by simp) (HKx.out.row.head cap k) (by omega) HBx.out.size 68
          rw [List.nil_append] at hf1
          have hb1 := (Tu.fresh (S := fun _ => False) hg1).below (B := wx.heap.size) (fun _ _ h => h) (Nat.le_refl _)
          have hB1 := HBx.out.trans (hb1.mono HBx.out.size)
          have hba := below_alloc w1 (.cells #[.string (str f.nm), .string (str f.bs), .int .i64 (f.su : Int)] 96)
          have hcm := Cells.made w1 96 #[.string (str f.nm), .string (str f.bs), .int .i64 (f.su : Int)]
          have hsrc : SrcF (w1.alloc (.cells #[.string (str f.nm), .string (str f.bs), .int .i64 (f.su : Int)] 96)) (some ⟨w1.heap.size, 0, none⟩) 1 [f] := fun j u hu => by
            rw [Go.WideShapes.add_plain, Nat.zero_add, hcm.cell]
            simpa [fcs, fc] using hu
          obtain ⟨ao2, cap2, w2, hr2, hf2, hg2⟩ := app_fs (World.ownsRow.alloc hf1 _) (show [f].length = 1 from rfl) (show (E.take k).length + 1 = k + 1 by rw [List.length_take]; omega) hsrc (by omega) (Nat.le_trans hB1.size hba.size) 68
          have hB2 := below_own (hB1.trans (hba.mono hB1.size)) (World.ownsRow.alloc hf1 _) hg2 (Nat.le_trans hB1.size hba.size)
          have hk2 := HK0.out.tu (S' := fun _ => False) (w' := w2) ⟨hB2.os, hB2.tape, hB2.output, hB2.size, fun i hi _ => hB2.block i hi⟩ (fun _ _ _ h => h)
          obtain ⟨ao3, cap3, w3, hr3, hf3, hg3⟩ := app_fs hf2 (show (E.drop k).length = E.length - k by rw [List.length_drop]) (show (E.take k ++ [f]).length + (E.length - k) = E.length + 1 by rw [List.length_append, List.length_take, List.length_singleton]; omega) (hk2.row.tail (cap - k) k hcap) (by omega) hB2.size 68
          rw [if_pos hck] at hr3
          have hB3 := below_own hB2 hf2 hg3 hB2.size
          have hfz := (HK0.out.blk.below hB3 HK0.out.blk.lt).frozen 1
          have hE3 : insK Ent.nm f E = E.take k ++ [f] ++ E.drop k := by rw [hE2]; simp
          rw [← hE3] at hf3
          have HREL := Lib.hid (HK0.out.relay hS hf3 (by simp [insK_len]) hB3 HG.out)
          have c1 := HKx.out.c1
          have c2 := hk2.c1
          have c3 : w3.cell? ⟨g, 1, none⟩ = some (.slice (some ⟨gr, 0, none⟩) E.length cap) := by rw [(HK0.out.blk.below hB3 HK0.out.blk.lt).cell]; rfl
          have hbx := (HCB.out.below HB2.out HCB.out.lt).below hb1 (HCB.out.below HB2.out HCB.out.lt).lt
          have x0 : w1.cell? ⟨w.heap.size, 0, none⟩ = some (.string (str f.nm)) := by rw [hbx.cell]; rfl
          have x1 : w1.cell? ⟨w.heap.size, 1, none⟩ = some (.string (str f.bs)) := by rw [hbx.cell]; rfl
          have x2 : w1.cell? ⟨w.heap.size, 2, none⟩ = some (.int .i64 (f.su : Int)) := by rw [hbx.cell]; rfl
          have HR1 := Lib.hid hr1
          have HR2 := Lib.hid hr2
          have HR3 := Lib.hid hr3
          clear hr1 hr2 hr3 hf1 hf2 hf3 hg1 hg2 hg3 hb1 hB1 hB2 hB3 hba hcm hsrc hbx hk2 hE2 hE3 hG2
          go_upto_region 6 with (at_builtin; refine wpList_app rfl _ _ _ _ rfl _ _ _ rfl rfl HR1.out ?_)
          go_upto_region 7 with (at_builtin; refine wpList_app rfl _ _ _ _ rfl _ _ _ rfl rfl HR2.out ?_)
          go_wp2_with (at_builtin; refine wpList_app rfl _ _ _ _ rfl _ _ _ rfl rfl HR3.out ?_)
          all_goals (
            go_end0
            exact ⟨rfl, ⟨_, _, _, rfl, HREL.out.1⟩, HREL.out.2⟩)
        · skip
          have hE2 := HC.out k hk (fun j hj hjk => HN.out j hj hjk) (fun h => absurd h hlt)
          have HKx := Lib.hid (HK.out.new HB2.out)
          have HBx : Hid (Below w.heap.size w wx) := HAL.out.trans (HB2.out.mono HAL.out.size)
          have hG2 := HG.out
          rw [hE2] at hG2

          have hcap : E.length ≤ cap := by
            rcases HKx.out.row.2 with ⟨he, _⟩ | ⟨_, _, _, he, _, _, hc, _⟩
            · cases he
            · injection he with e1 e2 e3; subst e3; exact hc
          obtain ⟨ao1, cap1, w1, hr1, hf1, hg1⟩ := app_fs (FRow.nil w.heap.size wx) (show (E.take k).length = k by rw [List.length_take]; omega) (show ([] : List Ent).length + k = k by simp) (HKx.out.row.head cap k) (by omega) HBx.out.size 68
          rw [List.nil_append] at hf1
          have hb1 := (Tu.fresh (S := fun _ => False) hg1).below (B := wx.heap.size) (fun _ _ h => h) (Nat.le_refl _)
          have hB1 := HBx.out.trans (hb1.mono HBx.out.size)
          have hba := below_alloc w1 (.cells #[.string (str f.nm), .string (str f.bs), .int .i64 (f.su : Int)] 96)
          have hcm := Cells.made w1 96 #[.string (str f.nm), .string (str f.bs), .int .i64 (f.su : Int)]
          have hsrc : SrcF (w1.alloc (.cells #[.string (str f.nm), .string (str f.bs), .int .i64 (f.su : Int)] 96)) (some ⟨w1.heap.size, 0, none⟩) 1 [f] := fun j u hu => by
            rw [Go.WideShapes.add_plain, Nat.zero_add, hcm.cell]
            simpa [fcs, fc] using hu
          obtain ⟨ao2, cap2, w2, hr2, hf2, hg2⟩ := app_fs (World.ownsRow.alloc hf1 _) (show [f].length = 1 from rfl) (show (E.take k).length + 1 = k + 1 by rw [List.length_take]; omega) hsrc (by omega) (Nat.le_trans hB1.size hba.size) 68
          have hB2 := below_own (hB1.trans (hba.mono hB1.size)) (World.ownsRow.alloc hf1 _) hg2 (Nat.le_trans hB1.size hba.size)
          have hk2 := HK0.out.tu (S' := fun _ => False) (w' := w2) ⟨hB2.os, hB2.tape, hB2.output, hB2.size, fun i hi _ => hB2.block i hi⟩ (fun _ _ _ h => h)
          obtain ⟨ao3, cap3, w3, hr3, hf3, hg3⟩ := app_fs hf2 (show (E.drop k).length = E.length - k by rw [List.length_drop]) (show (E.take k ++ [f]).length + (E.length - k) = E.length + 1 by rw [List.length_append, List.length_take, List.length_singleton]; omega) (hk2.row.tail (cap - k) k hcap) (by omega) hB2.size 68
          rw [if_neg hck] at hr3
          have hB3 := below_own hB2 hf2 hg3 hB2.size
          have hfz := (HK0.out.blk.below hB3 HK0.out.blk.lt).frozen 1
          have hE3 : insK Ent.nm f E = E.take k ++ [f] ++ E.drop k := by rw [hE2]; simp
          rw [← hE3] at hf3
          have HREL := Lib.hid (HK0.out.relay hS hf3 (by simp [insK_len]) hB3 HG.out)
          have c1 := HKx.out.c1
          have c2 := hk2.c1
          have c3 : w3.cell? ⟨g, 1, none⟩ = some (.slice (some ⟨gr, 0, none⟩) E.length cap) := by rw [(HK0.out.blk.below hB3 HK0.out.blk.lt).cell]; rfl
          have hbx := (HCB.out.below HB2.out HCB.out.lt).below hb1 (HCB.out.below HB2.out HCB.out.lt).lt
          have x0 : w1.cell? ⟨w.heap.size, 0, none⟩ = some (.string (str f.nm)) := by rw [hbx.cell]; rfl
          have x1 : w1.cell? ⟨w.heap.size, 1, none⟩ = some (.string (str f.bs)) := by rw [hbx.cell]; rfl
          have x2 : w1.cell? ⟨w.heap.size, 2, none⟩ = some (.int .i64 (f.su : Int)) := by rw [hbx.cell]; rfl
          have HR1 := Lib.hid hr1
          have HR2 := Lib.hid hr2
          have HR3 := Lib.hid hr3
          clear hr1 hr2 hr3 hf1 hf2 hf3 hg1 hg2 hg3 hb1 hB1 hB2 hB3 hba hcm hsrc hbx hk2 hE2 hE3 hG2
          go_upto_region 6 with (at_builtin; refine wpList_app rfl _ _ _ _ rfl _ _ _ rfl rfl HR1.out ?_)
          go_upto_region 7 with (at_builtin; refine wpList_app rfl _ _ _ _ rfl _ _ _ rfl rfl HR2.out ?_)
          go_wp2_with (at_builtin; refine wpList_app rfl _ _ _ _ rfl _ _ _ rfl rfl HR3.out ?_)
          all_goals (
            go_end0
            exact ⟨rfl, ⟨_, _, _, rfl, HREL.out.1⟩, HREL.out.2⟩)
end
end Go.Proofs.YthjhjbiihhpnfaaGreat
